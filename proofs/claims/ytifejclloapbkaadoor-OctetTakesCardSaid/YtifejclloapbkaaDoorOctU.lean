/- octet: the two Readers taken through the same kinds. -/
import Derived.Test.YtifejclloapbkaaDoorOctT
import Derived.Deep.RegionHeld3
import Derived.Deep.QuietTactic
import Derived.BigQuiet
namespace Go.Proofs.YtifejclloapbkaaDoor
open Go.RowKit
set_option maxRecDepth 100000

variable {w0 wr : World} {B b8 b9 : Nat} {T T' : Nat → Prop} {x : Value} {l : List UInt8} {sA sB : Option (List UInt8)}
theorem Rr.drewN {w : World} {b : Nat} {S : Nat → Prop} {v : Value} {st : Option (List UInt8)} (h : Rr w b S v st) (n : Nat) : Rr (w.drewN n) b S v st := ⟨h.blk, h.row, h.off⟩
/-- What the comparison of the two sees. -/
theorem Jt.eyes (h : Jt w0 B b8 b9 T T' x l wr sA sA) : ∃ (n : Nat) (A : Option Addr) (c : Nat) (gd bd wh : Bool), ((gd = true ∧ bd = false) ∨ (gd = false ∧ bd = true)) ∧
    (∀ m, Calls Tryd.prog 28 #[.pointer (some ⟨b8, 0, none⟩)] (wr.drewN m) fun e w' => e = .returned (.int .i64 n) ∧ w' = wr.drewN m) ∧
    (∀ m, Calls Tryd.prog 18 #[.pointer (some ⟨b8, 0, none⟩)] (wr.drewN m) fun e w' => e = .returned (.bool gd) ∧ w' = wr.drewN m) ∧
    (∀ m, Calls Tryd.prog 19 #[.pointer (some ⟨b8, 0, none⟩)] (wr.drewN m) fun e w' => e = .returned (.bool wh) ∧ w' = wr.drewN m) ∧
    (∀ m, Calls Tryd.prog 36 #[.pointer (some ⟨b9, 0, none⟩)] (wr.drewN m) fun e w' => e = .returned (.bool wh) ∧ w' = wr.drewN m) ∧
    wr.cell? ⟨b9, 0, none⟩ = some (.slice A n c) ∧ wr.cell? ⟨b9, 1, none⟩ = some (.bool bd) := by
  obtain ⟨v, g⟩ := h.rd
  obtain ⟨v', g'⟩ := h.rr
  obtain ⟨A, c, rfl, y1, y2, y3, y4⟩ := g'.row.open_
  obtain ⟨f0, f1⟩ := g'.blk.c1
  refine ⟨_, A, c, sA.isSome, sA.isNone, isWhole sA, ?_, fun m => left_any (g.drewN m), fun m => good_any (g.drewN m), fun m => whole_any (g.drewN m), fun m => rwhole_any (g'.drewN m), f0, f1⟩
  cases sA
  · exact .inr ⟨rfl, rfl⟩
  · exact .inl ⟨rfl, rfl⟩

set_option maxHeartbeats 4000000 in
theorem law_takes {w : World} {y z u : Value} {l : List UInt8} {ks ns : List Int} (hy : Bs w (fun _ => True) y l) (hz : Is w (fun _ => True) z ks) (hu : Is w (fun _ => True) u ns) (hN : Nib w) :
    Calls Tryd.prog 5 #[y, z, u] w fun e w' => e = .returned (.bool true) ∧ Ext w w' := by
  replace hy : Bs w (fun k => k < w.heap.size) y l := hy.mono (fun k hk _ => hk)
  replace hz : Is w (fun k => k < w.heap.size) z ks := hz.mono (fun k hk _ => hk)
  replace hu : Is w (fun k => k < w.heap.size) u ns := hu.mono (fun k hk _ => hk)
  have hy0 := hy
  obtain ⟨A, c, rfl, y1, y2, y3, y4⟩ := hy.open_
  obtain ⟨Az, cz, rfl, z1, z2, z3, z4⟩ := hz.open_
  obtain ⟨Au, cu, rfl, u1, u2, u3, u4⟩ := hu.open_
  by_cases hb1 : 4000 < l.length
  · go_enter Tryd.func5, Tryd.ntmps5
    go_wp2_with fail
    go_ret
    exact ⟨rfl, Mod.refl _ _⟩
  by_cases hb2 : 200 < ks.length
  · go_enter Tryd.func5, Tryd.ntmps5
    go_wp2_with fail
    go_ret
    exact ⟨rfl, Mod.refl _ _⟩
  by_cases hb3 : ns.length < ks.length
  · go_enter Tryd.func5, Tryd.ntmps5
    go_wp2_with fail
    go_ret
    exact ⟨rfl, Mod.refl _ _⟩
  go_enter Tryd.func5, Tryd.ntmps5
  go_wp2_with fail
  refine (roomy_any hy0 (by omega)).mono ?_
  rintro e w1 ⟨x7, rfl, r1, r2, r3⟩
  obtain ⟨A7, c7, rfl⟩ := r1.shape
  have hc7 := own_cap r1
  rw [List.length_map, List.length_append] at r1 r2 hc7 ⊢
  simp only [List.length_cons, List.length_nil, Nat.zero_add] at r1 r2 hc7 ⊢
  have hbg := roomy_begin r1
  go_wp2_with fail
  refine (newreader_any hbg (by omega)).mono ?_
  rintro e w2 ⟨b8, v8, rfl, n1, n2, n3, n4⟩
  have hx2 := ext_trans r3 n4
  have hs1 := r3.size
  have hs2 := n4.size
  have r12 := r1.mod n4 (fun _ _ h => h)
  have hy2 := hy0.ext hx2
  have r0 : ∀ k, own (.slice A7 (l.length + 1) c7) k → k < w1.heap.size := fun k hk => r1.lt hk
  clear r3 n4 r1 hbg
  go_wp2_with ((with_reducible show wpList _ _ _ (⟨some 42, _, _, _, _, _⟩ :: _) _ _); refine wp_app tyB (Own.empty w2 5) (hy2.alloc _) (bv_one _) rfl (.tmp 40) (.tmp 41) rfl rfl rfl ?hn ?_; rotate_right; intro v3 w3 hown3 hmod3 hnx3; obtain ⟨A3, c3, hv3⟩ := hown3.shape; subst hv3)
  case hn => simp; omega
  simp only [List.nil_append, List.length_map] at hown3 hmod3 hnx3
  generalize Value.slice A3 l.length c3 = v3 at *
  have hfr0 : Fresh w2.heap.size (.slice (some ⟨w2.heap.size, 0, none⟩) 0 0) := (fun k hk => by have : w2.heap.size = k := Option.some.inj hk; omega)
  have hx3 : Ext w2 w3 := ext_app (Mod.refl _ w2) hfr0 hmod3
  have hf3 : Fresh w2.heap.size v3 := hnx3.fresh hfr0 (by simp)
  have hs3 := hx3.size
  have hx4 : Ext w3 (w3.alloc (.cells #[v3, .bool false] 45)) := (Mod.refl _ w3).alloc _
  have hJ0 : Jt w (w3.heap.size + 1) b8 w3.heap.size (fun k => k = w1.heap.size) (own v3) (.slice A7 (l.length + 1) c7) l (w3.alloc (.cells #[v3, .bool false] 45)) (some l) (some l) := by
    refine ⟨⟨v8, (n1.mod hx3 (fun h => h) (fun _ _ _ h => h)).mod hx4 (fun h => h) (fun _ _ _ h => h)⟩, ⟨v3, Blk.new _ _ _, ?_, ?_⟩, ext_trans (ext_trans hx2 hx3) hx4, (r12.mod hx3 (fun _ _ h => h)).mod hx4 (fun _ _ h => h),
      by omega, by simp, by omega, by omega, by omega, by omega, by omega, ?_, ?_, ?_, by simp; omega, by simp; omega⟩
    · exact hown3.sl.ext hx4
    · intro h
      have := hown3.lt h
      omega
    · rintro k rfl
      omega
    · intro k hk
      have h1 := hown3.lt hk
      have h2 := hf3 k hk
      omega
    · intro k hk
      have h1 := r0 k hk
      omega
  clear hx4 hf3 hx3 hfr0 hown3 hmod3 hnx3 r12 hy2 hx2 n1 n2 n3 r0 r2 hs1 hs2 hs3
  generalize own v3 = T' at hJ0
  generalize (fun k => k = w1.heap.size) = T at hJ0
  generalize w3.heap.size = b9 at hJ0 ⊢
  generalize hB : b9 + 1 = B at hJ0
  generalize (w3.alloc (.cells #[v3, .bool false] 45)) = w4 at hJ0 ⊢
  clear hB
  go_loopw [10] (fun i wr => ∃ (k : Nat) (st : Option (List UInt8)), k ≤ ks.length ∧ i = .int .i64 k ∧ Jt w B b8 b9 T T' (.slice A7 (l.length + 1) c7) l wr st st) (fun i _ => ks.length - (intOf i).toNat)
  case atStart => exact ⟨0, some l, Nat.zero_le _, rfl, hJ0⟩
  case round =>
    obtain ⟨k, st, hk, rfl, hJ⟩ := hrel
    by_cases hlt : k < ks.length
    · obtain ⟨ad, rfl, hs, hc⟩ := (z4.mod hJ.ext (fun _ _ _ h => h)).at_ hlt
      obtain ⟨ad2, rfl, hs2, hcw⟩ := u4.at_ (show k < ns.length by omega)
      have hnk0 : ∀ wx, Ext w wx → wx.cell? (ad2.add k) = some (iv ns[k]) := fun wx hx => (hx.cell (p := ad2.add k) (by rw [block_of_add]; exact hs2) (fun h => h)).trans hcw
      clear hcw
      generalize ks[k] = kd at hc
      obtain ⟨nk, hnk⟩ : ∃ nk, ∀ wx, Ext w wx → wx.cell? (ad2.add k) = some (iv nk) := ⟨_, hnk0⟩
      have hc2 := hnk _ hJ.ext
      clear hnk0
      by_cases e1 : kd = 1
      · subst e1
        go_wp2_with fail
        refine (jnum hJ).mono ?_; rintro e w5 ⟨rfl, J5, -⟩
        go_wp2_with fail
        refine (jrnum J5).mono ?_; rintro e w6 ⟨rfl, hJ2, -⟩
        generalize ((takeN st).1 : Int) = a5
        go_wp2_with fail
        obtain ⟨n0, A0, c0, gd, bd, wh, t1, t2, t3, t4, t5, f0, f1⟩ := hJ2.eyes
        have t6 : (wh != wh) = false := by simp
        obtain ⟨rfl, rfl⟩ | ⟨rfl, rfl⟩ := t1
        all_goals
          go_quiet (first
            | (go_at_call 28; exact Calls.quiet_of_same (t2 _))
            | (go_at_call 18; exact Calls.quiet_of_same (t3 _))
            | (go_at_call 19; exact Calls.quiet_of_same (t4 _))
            | (go_at_call 36; exact Calls.quiet_of_same (t5 _)))
          go_wp2_with fail
          exact ⟨⟨k + 1, _, by omega, by go_num, hJ2.ext_ ((Mod.refl _ _).drewN _)⟩, by simp [intOf]; omega⟩
      by_cases e2 : kd = 2
      · subst e2
        go_wp2_with fail
        refine (jbytes hJ).mono ?_; rintro e w5 ⟨v5, rfl, J5, O5, -⟩
        go_wp2_with fail
        refine (jrbytes J5).mono ?_; rintro e w6 ⟨v6, rfl, J6, O6, m6⟩
        have O56 := O5.mod m6 (fun k hk => by have := J5.h9; omega)
        go_wp2_with fail
        refine (jsame J6 O56 O6).mono ?_; rintro e w7 ⟨rfl, J7, O7⟩
        go_wp2_with fail
        refine (jspoil J7 O7 (by have := (takeB_len st).2; have := hJ.mA; omega)).mono ?_; rintro e w8 ⟨rfl, hJ2⟩
        go_wp2_with fail
        obtain ⟨n0, A0, c0, gd, bd, wh, t1, t2, t3, t4, t5, f0, f1⟩ := hJ2.eyes
        have t6 : (wh != wh) = false := by simp
        obtain ⟨rfl, rfl⟩ | ⟨rfl, rfl⟩ := t1
        all_goals
          go_quiet (first
            | (go_at_call 28; exact Calls.quiet_of_same (t2 _))
            | (go_at_call 18; exact Calls.quiet_of_same (t3 _))
            | (go_at_call 19; exact Calls.quiet_of_same (t4 _))
            | (go_at_call 36; exact Calls.quiet_of_same (t5 _)))
          go_wp2_with fail
          exact ⟨⟨k + 1, _, by omega, by go_num, hJ2.ext_ ((Mod.refl _ _).drewN _)⟩, by simp [intOf]; omega⟩
      by_cases e3 : kd = 3
      · subst e3
        go_wp2_with fail
        have p4 := hJ.h8
        have p5 := hJ.h9
        have P4 : ∀ k, k = b8 → k < B := by omega
        have P5 : ∀ k, k = b9 → k < B := by omega
        have hJd := hJ.drew
        have x1 : (0 : Int) ≤ (k : Int) := Int.natCast_nonneg _
        have x2 : (k : Int) < (ns.length : Int) := by omega
        clear p4 p5
        go_region_held3 (fun w' => w'.cell? (ad2.add k) = some (iv nk)) (first | exact hc2 | exact hnk _ hJd.ext | exact hnk _ JA.ext | exact hnk _ JX.ext | exact hnk _ J6.ext | exact hnk _ hJ2.ext)
          ((first
          | (go_at_call 29; first
            | (refine (jraw hJd nk).mono ?_; rintro e w5 ⟨v5, rfl, JA, OA, mA⟩)
            | (refine (jraw JX nk).mono ?_; rintro e w6 ⟨v6, rfl, J6, O5, mA⟩; have O6 := OX.mod mA P4))
          | (go_at_call 32; first
            | (refine (jrraw hJd nk).mono ?_; rintro e w5 ⟨v5, rfl, JX, OX, mX⟩)
            | (refine (jrraw JA nk).mono ?_; rintro e w6 ⟨v6, rfl, J6, O6, mX⟩; have O5 := OA.mod mX P5))
          | (go_at_call 13; refine (jsame J6 O5 O6).mono ?_; rintro e w7 ⟨rfl, hJ2, -⟩)))
        all_goals
          go_wp2_with fail
          obtain ⟨n0, A0, c0, gd, bd, wh, t1, t2, t3, t4, t5, f0, f1⟩ := hJ2.eyes
          have t6 : (wh != wh) = false := by simp
          obtain ⟨rfl, rfl⟩ | ⟨rfl, rfl⟩ := t1
          all_goals
            go_quiet (first
              | (go_at_call 28; exact Calls.quiet_of_same (t2 _))
              | (go_at_call 18; exact Calls.quiet_of_same (t3 _))
              | (go_at_call 19; exact Calls.quiet_of_same (t4 _))
              | (go_at_call 36; exact Calls.quiet_of_same (t5 _)))
            go_wp2_with fail
            exact ⟨⟨k + 1, _, by omega, by go_num, hJ2.ext_ ((Mod.refl _ _).drewN _)⟩, by simp [intOf]; omega⟩
      by_cases e4 : kd = 4
      · subst e4
        go_wp2_with fail
        refine (jbad hJ).mono ?_; rintro e w5 ⟨rfl, J5⟩
        go_wp2_with fail
        refine (jrbad J5).mono ?_; rintro e w6 ⟨rfl, hJ2⟩
        go_wp2_with fail
        obtain ⟨n0, A0, c0, gd, bd, wh, t1, t2, t3, t4, t5, f0, f1⟩ := hJ2.eyes
        have t6 : (wh != wh) = false := by simp
        obtain ⟨rfl, rfl⟩ | ⟨rfl, rfl⟩ := t1
        all_goals
          go_quiet (first
            | (go_at_call 28; exact Calls.quiet_of_same (t2 _))
            | (go_at_call 18; exact Calls.quiet_of_same (t3 _))
            | (go_at_call 19; exact Calls.quiet_of_same (t4 _))
            | (go_at_call 36; exact Calls.quiet_of_same (t5 _)))
          go_wp2_with fail
          exact ⟨⟨k + 1, _, by omega, by go_num, hJ2.ext_ ((Mod.refl _ _).drewN _)⟩, by simp [intOf]; omega⟩
      have hd1 : (kd == 1) = false := by rw [beq_eq_false_iff_ne]; exact e1
      have hd2 : (kd == 2) = false := by rw [beq_eq_false_iff_ne]; exact e2
      have hd3 : (kd == 3) = false := by rw [beq_eq_false_iff_ne]; exact e3
      have hd4 : (kd == 4) = false := by rw [beq_eq_false_iff_ne]; exact e4
      have p0 := hJ.B0
      have p1 := hJ.B1
      have p4 := hJ.h8
      have p5 := hJ.h9
      go_wp2_with fail
      obtain ⟨W, hW⟩ : ∃ W, W = ((wr.alloc (.cells #[.int .i64 7] 3)).alloc (.cells #[.int .i64 7] 3)).alloc (.cells #[.pointer (some ⟨wr.heap.size, 0, none⟩), .pointer none, .pointer (some ⟨wr.heap.size + 1, 0, none⟩)] 47) := ⟨_, rfl⟩
      have J5 : Jt w B b8 b9 T T' (.slice A7 (l.length + 1) c7) l W st st := by rw [hW]; exact hJ.ext_ ((((Mod.refl _ wr).alloc _).alloc _).alloc _)
      have ha : Blk W wr.heap.size 3 #[.int .i64 7] := by rw [hW]; exact ((Blk.new wr _ _).alloc _).alloc _
      have hb : Blk W (wr.heap.size + 1) 3 #[.int .i64 7] := by
        have := (Blk.new (wr.alloc (.cells #[.int .i64 7] 3)) 3 #[.int .i64 7]).alloc (.cells #[.pointer (some ⟨wr.heap.size, 0, none⟩), .pointer none, .pointer (some ⟨wr.heap.size + 1, 0, none⟩)] 47)
        rw [World.size_alloc] at this
        rw [hW]; exact this
      have hs3 : Sl W (fun k => k = wr.heap.size + 1 + 1) (.slice (some ⟨wr.heap.size + 1 + 1, 0, none⟩) 3 3) [.pointer (some ⟨wr.heap.size, 0, none⟩), .pointer none, .pointer (some ⟨wr.heap.size + 1, 0, none⟩)] := by
        have := Sl.lit ((wr.alloc (.cells #[.int .i64 7] 3)).alloc (.cells #[.int .i64 7] 3)) 47 [.pointer (some ⟨wr.heap.size, 0, none⟩), .pointer none, .pointer (some ⟨wr.heap.size + 1, 0, none⟩)] (by simp [maxLen])
        rw [World.size_alloc, World.size_alloc] at this
        rw [hW]; exact this
      rw [← hW]
      clear hW hJ
      generalize wr.heap.size = pa at *
      refine (jnums J5 ha hb hs3 (fun k hk => by omega) (by omega) (by omega) (by omega)).mono ?_
      rintro e w5 ⟨rfl, J6, ha6, hb6⟩
      have q1 : ¬ pa = b9 := by omega
      have q2 : ¬ pa + 1 = b9 := by omega
      clear J5 ha hb hs3 hc hc2 p0 p1 p4 p5
      go_wp2_with fail
      refine (jrnum J6).mono ?_; rintro e w6 ⟨rfl, J7, m7⟩
      have ha7 := ha6.mod m7 q1
      have hb7 := hb6.mod m7 q2
      go_wp2_with fail
      refine (jrnum J7).mono ?_; rintro e w7 ⟨rfl, J8, m8⟩
      have ha8 := ha7.mod m8 q1
      have hb8 := hb7.mod m8 q2
      clear ha6 ha7 hb6 hb7 J6 J7 m7 m8
      have hca := ha8.c0
      have hcb := hb8.c0
      obtain ⟨a1, ha1⟩ : ∃ a1 : Int, a1 = (takeN st).1 := ⟨_, rfl⟩
      obtain ⟨a3, ha3⟩ : ∃ a3 : Int, a3 = (takeN (takeN (takeN st).2).2).1 := ⟨_, rfl⟩
      rw [← ha1] at hca ⊢
      rw [← ha3] at hcb
      have hq : (a1 == a1) = true := by simp
      have hq3 : (a3 == a3) = true := by simp
      have J8d := J8.drew
      replace ha3 := Lib.hid ha3
      go_wp2_with fail
      go_region_held3 (fun w' => w'.cell? ⟨pa, 0, none⟩ = some (.int .i64 a1) ∧ w'.cell? ⟨pa + 1, 0, none⟩ = some (.int .i64 a3)) (first | exact ⟨hca, hcb⟩ | exact ⟨hca9, hcb9⟩)
        ((go_at_call 30; refine (jrnum J8d).mono ?_; rintro e w9 ⟨rfl, hJ2, m9⟩; rw [← ha3.out]; have hca9 := (Blk.mod (w := w7.drew) ha8 m9 q1).c0; have hcb9 := (Blk.mod (w := w7.drew) hb8 m9 q2).c0; rw [← ha1] at hca9; rw [← ha3.out] at hcb9))
      all_goals
        go_wp2_with fail
        obtain ⟨n0, A0, c0, gd, bd, wh, t1, t2, t3, t4, t5, f0, f1⟩ := hJ2.eyes
        have t6 : (wh != wh) = false := by simp
        obtain ⟨rfl, rfl⟩ | ⟨rfl, rfl⟩ := t1
        all_goals
          go_quiet (first
            | (go_at_call 28; exact Calls.quiet_of_same (t2 _))
            | (go_at_call 18; exact Calls.quiet_of_same (t3 _))
            | (go_at_call 19; exact Calls.quiet_of_same (t4 _))
            | (go_at_call 36; exact Calls.quiet_of_same (t5 _)))
          go_wp2_with fail
          exact ⟨⟨k + 1, _, by omega, by go_num, hJ2.ext_ ((Mod.refl _ _).drewN _)⟩, by simp [intOf]; omega⟩
    · go_wp2_with fail
      refine (stands_any hJ.row.sl (hy0.ext hJ.ext)).mono ?_
      rintro e w5 ⟨rfl, n5, hw5⟩
      have hJ5 := hJ.ext_ (show Ext wr w5 by rw [hw5]; exact (Mod.refl _ wr).drewN n5)
      clear hw5
      obtain ⟨v, g⟩ := hJ5.rd
      obtain ⟨v', g'⟩ := hJ5.rr
      go_wp2_with fail
      refine (whole_any g).mono ?_; rintro e w6 ⟨rfl, rfl⟩
      go_wp2_with fail
      refine (rwhole_any g').mono ?_; rintro e w6 ⟨rfl, rfl⟩
      generalize isWhole st = wh
      have hq : (wh == wh) = true := by simp
      have hN5 := hN.mod hJ5.ext (fun h => h)
      go_wp2_with fail
      refine (known_any hN5).mono ?_; rintro e w10 ⟨rfl, hx10⟩
      go_wp2_with fail
      go_ret
      exact ⟨rfl, ext_trans hJ5.ext hx10⟩
end Go.Proofs.YtifejclloapbkaaDoor
