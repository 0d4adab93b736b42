/- octet: the document's Reader. -/
import Derived.Test.YtlfooppmdgddkaaOctP
namespace Go.Proofs.Ytlfooppmdgddkaa
open Go.RowKit
set_option maxRecDepth 100000

/-- The document's Reader behind a pointer: what is left, or that it erred. -/
structure Rr (w : World) (b : Nat) (S : Nat → Prop) (v : Value) (st : Option (List UInt8)) : Prop where
  blk : Blk w b 97 #[v, .bool st.isNone]
  row : Bs w S v (st.getD [])
  off : ¬ S b
theorem Rr.mod {F S : Nat → Prop} {w w' : World} {b : Nat} {v : Value} {st : Option (List UInt8)} (h : Rr w b S v st) (hm : Mod F w w') (hb : ¬ F b) (hv : ∀ k, k < w.heap.size → S k → ¬ F k) : Rr w' b S v st :=
  ⟨h.blk.mod hm hb, h.row.mod hm hv, h.off⟩
theorem rbad_any {w : World} {b : Nat} {S : Nat → Prop} {v : Value} {st : Option (List UInt8)} (h : Rr w b S v st) :
    Calls Try.prog 96 #[.pointer (some ⟨b, 0, none⟩)] w fun e w' => e = .returned (.tuple #[]) ∧ Rr w' b S (.slice none 0 0) none ∧ Mod (fun k => k = b) w w' ∧ w'.heap.size = w.heap.size := by
  obtain ⟨h0, h1⟩ := h.blk.c1
  have hf0 := h.blk.frozen 0
  have hf1 := h.blk.frozen 1
  go_enter Try.func96, Try.ntmps96
  go_wp2
  go_end0
  refine ⟨rfl, ⟨(h.blk.set_ 1 _).set_ 0 _, Sl.nil _ _, h.off⟩, ((Mod.refl (fun k => k = b) w).setCell (fun _ => rfl) _).setCell (fun _ => rfl) _, by simp [World.setCell]⟩
set_option maxHeartbeats 800000 in
theorem rraw_any {w : World} {b : Nat} {S : Nat → Prop} {v : Value} {st : Option (List UInt8)} (hrd : Rr w b S v st) (n : Int) (hl : (st.getD []).length ≤ 140737488355328) :
    Calls Try.prog 95 #[.pointer (some ⟨b, 0, none⟩), .int .i64 n] w fun e w' => ∃ v' v1, e = .returned v1 ∧ Rr w' b S v' (takeRaw n st).2 ∧ Own w' 5 v1 ((takeRaw n st).1.map bv) ∧ Fresh w.heap.size v1 ∧ Mod (fun k => k = b) w w' := by
  obtain ⟨h0, h1⟩ := hrd.blk.c1
  cases st with
  | none =>
    have hv : ∃ A c, v = .slice A 0 c := by obtain ⟨A, c, h, _⟩ := hrd.row; exact ⟨A, c, h⟩
    obtain ⟨A, c, rfl⟩ := hv
    rcases Int.lt_trichotomy n 0 with hn | hn | hn
    · have hb1 : decide (n < 0) = true := by simpa using hn
      go_enter Try.func95, Try.ntmps95
      go_wp2_with (go_at_call 96; refine (rbad_any hrd).mono ?_; rintro e w1 ⟨rfl, k1, k2, k3⟩; obtain ⟨h0', h1'⟩ := k1.blk.c1)
      go_ret
      exact ⟨_, _, rfl, k1, Own.nil _ _, fresh_nil _ _ _, k2⟩
    · subst hn
      go_enter Try.func95, Try.ntmps95
      go_wp2
      go_ret
      exact ⟨_, _, rfl, hrd, Own.nil _ _, fresh_nil _ _ _, Mod.refl _ _⟩
    · have hb1 : decide (n < 0) = false := by simp; omega
      have hb2 : decide ((0 : Int) < n) = true := by simpa using hn
      go_enter Try.func95, Try.ntmps95
      go_wp2_with (go_at_call 96; refine (rbad_any hrd).mono ?_; rintro e w1 ⟨rfl, k1, k2, k3⟩; obtain ⟨h0', h1'⟩ := k1.blk.c1)
      go_ret
      exact ⟨_, _, rfl, k1, Own.nil _ _, fresh_nil _ _ _, k2⟩
  | some l =>
    obtain ⟨A, c, rfl, g1, g2, g3, g4⟩ := hrd.row.open_
    simp only [Option.getD_some] at h0 g1 g2 g3 g4 hl
    by_cases hn : n < 0 ∨ (l.length : Int) < n
    · have e1 : takeRaw n (some l) = ([], none) := by simp [takeRaw, hn]
      rw [e1]
      clear e1
      rcases hn with hn | hn
      · have hb1 : decide (n < 0) = true := by simpa using hn
        go_enter Try.func95, Try.ntmps95
        go_wp2_with (go_at_call 96; refine (rbad_any hrd).mono ?_; rintro e w1 ⟨rfl, k1, k2, k3⟩; obtain ⟨h0', h1'⟩ := k1.blk.c1)
        go_ret
        exact ⟨_, _, rfl, k1, Own.nil _ _, fresh_nil _ _ _, k2⟩
      · have hb1 : decide (n < 0) = false := by simp; omega
        have hb2 : decide ((l.length : Int) < n) = true := by simpa using hn
        go_enter Try.func95, Try.ntmps95
        go_wp2_with (go_at_call 96; refine (rbad_any hrd).mono ?_; rintro e w1 ⟨rfl, k1, k2, k3⟩; obtain ⟨h0', h1'⟩ := k1.blk.c1)
        go_ret
        exact ⟨_, _, rfl, k1, Own.nil _ _, fresh_nil _ _ _, k2⟩
    · obtain ⟨m, rfl⟩ := Int.eq_ofNat_of_zero_le (show 0 ≤ n by omega)
      have hm : m ≤ l.length := by
        have h9 : ¬ (l.length : Int) < (m : Int) := fun h => hn (.inr h)
        omega
      have e1 : takeRaw (m : Int) (some l) = (l.take m, some (l.drop m)) := by simp only [takeRaw]; rw [if_neg hn]; simp
      rw [e1]
      clear e1
      have hb1 : decide ((m : Int) < 0) = false := by rw [decide_eq_false_iff_not]; omega
      have hb2 : decide ((l.length : Int) < (m : Int)) = false := by rw [decide_eq_false_iff_not]; omega
      have hbs : Bs w S (.slice A m c) (l.take m) := Bs.begin hrd.row hm
      obtain ⟨h0a, h1a⟩ := (hrd.blk.alloc (.cells #[] 5)).c1
      go_enter Try.func95, Try.ntmps95
      go_wp2_with ((with_reducible show wpList _ _ _ (⟨some 30, _, _, _, _, _⟩ :: _) _ _); refine wp_app tyB (Own.empty w 5) (hbs.alloc _) (bv_one _) rfl (.tmp 23) (.tmp 29) rfl rfl rfl ?hn ?_; rotate_right; intro v1 w1 k1 hmod1 hnx1; have hfr0 : Fresh w.heap.size (.slice (some ⟨w.heap.size, 0, none⟩) 0 0) := (fun k hk => by have : w.heap.size = k := Option.some.inj hk; omega); have k3 : Ext w w1 := ext_app (Mod.refl _ w) hfr0 hmod1; have k2 : Fresh w.heap.size v1 := hnx1.fresh hfr0 (by simp); have h' := hrd.mod k3 (fun h => h) (fun _ _ _ h => h); obtain ⟨h0', h1'⟩ := h'.blk.c1; have hf0 := h'.blk.frozen 0)
      case hn => simp; omega
      all_goals
        have hset : ∀ u, Mod (fun k => k = b) w1 (w1.setCell ⟨b, 0, none⟩ u) := fun u => (Mod.refl (fun k => k = b) w1).setCell (fun _ => rfl) u
        have hall : ∀ (x : Value), Bs w1 S x (l.drop m) → ∃ v' v1', v1 = v1' ∧ Rr (w1.setCell ⟨b, 0, none⟩ x) b S v' (some (l.drop m)) ∧ Own (w1.setCell ⟨b, 0, none⟩ x) 5 v1' ((l.take m).map bv) ∧ Fresh w.heap.size v1' ∧ Mod (fun k => k = b) w (w1.setCell ⟨b, 0, none⟩ x) := fun x hx =>
          ⟨x, v1, rfl, ⟨h'.blk.set_ 0 _, hx.mod (hset _) (fun k _ hs e => hrd.off (e ▸ hs)), h'.off⟩, (show Own w1 5 v1 ((l.take m).map bv) by simpa using k1).mod (hset _) (fun k hk e => by have := hrd.blk.lt; have := k2 k hk; omega), k2, (k3.mono (G := fun k => k = b) fun _ _ h => h.elim).setCell (fun _ => rfl) _⟩
        go_ret
        first
          | (have hcm : c = m := by assumption
             obtain ⟨v', v1', e1, q1, q2, q3, q4⟩ := hall _ (Bs.rest0 h'.row hm hcm)
             exact ⟨v', v1, rfl, q1, by rw [e1]; simpa using q2, by rw [e1]; exact q3, q4⟩)
          | (obtain ⟨v', v1', e1, q1, q2, q3, q4⟩ := hall _ (Bs.rest h'.row hm)
             exact ⟨v', v1, rfl, q1, by rw [e1]; simpa using q2, by rw [e1]; exact q3, q4⟩)
set_option maxHeartbeats 1600000 in
theorem rrnum_any {w : World} {b : Nat} {S : Nat → Prop} {v : Value} {st : Option (List UInt8)} (hrd : Rr w b S v st) (hl : (st.getD []).length ≤ 140737488355328) :
    Calls Try.prog 71 #[.pointer (some ⟨b, 0, none⟩)] w fun e w' => ∃ v', e = .returned (.int .i64 (takeN st).1) ∧ Rr w' b S v' (takeN st).2 ∧ Mod (fun k => k = b) w w' := by
  cases st with
  | none =>
    go_enter Try.func71, Try.ntmps71
    go_wp2
    go_loopw [4] (fun i wr => i = .int .i64 0 ∧ wr = w) (fun _ _ => 0)
    case atStart => exact ⟨rfl, rfl⟩
    case round =>
      obtain ⟨rfl, rfl⟩ := hrel
      go_wp2_with fail
      refine (rraw_any hrd 1 (by simp)).mono ?_
      rintro e w1 ⟨v1, x, rfl, q1, q2, q3, q4⟩
      obtain ⟨h0', h1'⟩ := q1.blk.c1
      go_wp2_with fail
      go_ret
      exact ⟨v1, rfl, q1, q4⟩
  | some l =>
    go_enter Try.func71, Try.ntmps71
    go_wp2
    go_loopw [3, 4] (fun n i wr => ∃ (k acc : Nat) (v' : Value), k ≤ 9 ∧ k ≤ l.length ∧ i = .int .i64 k ∧ n = .int .u64 acc ∧ acc < 128 ^ k ∧ Hid (numF (9 - k) k acc (l.drop k) = takeNum l) ∧ Rr wr b S v' (some (l.drop k)) ∧ Mod (fun k => k = b) w wr) (fun _ i _ => 10 - (intOf i).toNat)
    case atStart => exact ⟨0, 0, v, by omega, by omega, rfl, rfl, by simp, rfl, hrd, Mod.refl _ _⟩
    case round =>
      obtain ⟨k, acc, v', hk, hkl, rfl, rfl, hacc, hr, hrr, hm⟩ := hrel
      by_cases hlt : k < l.length
      · have hlp : 0 < (l.drop k).length := by simp; omega
        have hone : takeRaw 1 (some (l.drop k)) = ([l[k]], some (l.drop (k + 1))) := by
          simp only [takeRaw]
          rw [if_neg (by omega)]
          have e1 : l.drop k = l[k] :: l.drop (k + 1) := List.drop_eq_getElem_cons hlt
          rw [e1]
          rfl
        go_wp2_with fail
        refine (rraw_any hrr 1 (by simp at hl ⊢; omega)).mono ?_
        rintro e w1 ⟨v1, x, rfl, q1, q2, q3, q4⟩
        rw [hone] at q1 q2
        have hm1 := hm.then_ q4 (fun _ _ h => h)
        obtain ⟨h0', h1'⟩ := q1.blk.c1
        obtain ⟨g, cx, rfl, hcx⟩ : ∃ g cx, x = .slice (some ⟨g, 0, none⟩) 1 cx ∧ w1.cell? ⟨g, 0, none⟩ = some (.int .u8 (l[k].toNat : Int)) := by
          rcases q2.form with ⟨_, h⟩ | ⟨g, cap, hx, _⟩
          · simp at h
          · refine ⟨g, cap, by simpa using hx, ?_⟩
            rw [hx] at q2
            have := q2.cellAt (j := 0) (by simp)
            simpa using this
        clear q2 q3 q4 hrr hm hlp hone
        have hnone : (k = 9 → takeN (some l) = (0, none)) := by
          intro h9
          have := hr.out
          rw [h9] at this
          simp [takeN, ← this, numF]
        obtain ⟨x, hx⟩ : ∃ x, x = l[k].toNat % 128 := ⟨_, rfl⟩
        obtain ⟨B, hB⟩ : ∃ B, B = l[k].toNat := ⟨_, rfl⟩
        have hB256 : B < 256 := by rw [hB]; exact l[k].toNat_lt
        have hand : bits .and .u8 (B : Int) 127 = (x : Int) := by rw [hB, and127, hx]
        have hx1 : x < 128 := by omega
        have hxB : x = B % 128 := by rw [hB]; exact hx
        rw [← hB] at hcx
        by_cases h9 : k = 9
        · subst h9
          have hres := Lib.hid (hnone rfl)
          replace hx := Lib.hid hx
          replace hB := Lib.hid hB
          replace hxB := Lib.hid hxB
          by_cases c1 : 127 < B
          · go_wp2_with (go_at_call 96; refine (rbad_any q1).mono ?_; rintro e w2 ⟨rfl, k1, k2, k3⟩)
            go_ret
            rw [hres.out]
            exact ⟨_, rfl, k1, hm1.then_ k2 (fun _ _ h => h)⟩
          · by_cases c2 : 1 < B
            · go_wp2_with (go_at_call 96; refine (rbad_any q1).mono ?_; rintro e w2 ⟨rfl, k1, k2, k3⟩)
              go_ret
              rw [hres.out]
              exact ⟨_, rfl, k1, hm1.then_ k2 (fun _ _ h => h)⟩
            · by_cases c3 : B = 0
              · have hz0' : ((B : Int) == 0) = true := by simp [c3]
                clear c3
                go_wp2_with (go_at_call 96; refine (rbad_any q1).mono ?_; rintro e w2 ⟨rfl, k1, k2, k3⟩)
                go_ret
                rw [hres.out]
                exact ⟨_, rfl, k1, hm1.then_ k2 (fun _ _ h => h)⟩
              · have hz0' : ((B : Int) == 0) = false := by simp; omega
                have hB1 : B = 1 := by omega
                subst hB1
                obtain ⟨z, hz1, hz2⟩ : ∃ z : Nat, bits .or .u64 (acc : Int) 9223372036854775808 = (z : Int) ∧ 4611686018427387904 < z := by
                  refine ⟨acc ||| 9223372036854775808, ?_, ?_⟩
                  · have h9 : acc < 18446744073709551616 := Nat.lt_of_lt_of_le hacc (by decide)
                    have h10 := u64_or_nat acc 9223372036854775808 h9 (by omega)
                    rwa [show ((9223372036854775808 : Nat) : Int) = 9223372036854775808 from rfl] at h10
                  · have := Nat.right_le_or (n := acc) (m := 9223372036854775808); omega
                have hx1' : x = 1 := hxB.out
                subst hx1'
                have hwr : IntKind.u64.wrap (IntKind.u64.wrap (bits BinOp.and IntKind.u8 1 127) * 9223372036854775808) = 9223372036854775808 := by decide
                clear hz0' c1 c2 c3 hx1 hB256 hand
                go_wp2_with (go_at_call 96; refine (rbad_any q1).mono ?_; rintro e w2 ⟨rfl, k1, k2, k3⟩)
                go_ret
                rw [hres.out]
                exact ⟨_, rfl, k1, hm1.then_ k2 (fun _ _ h => h)⟩
        · have hb9 : ((k : Int) == 9) = false := by simp; omega
          have hor := or7 k x acc (by omega) hx1 hacc
          have hal := acc_lt k x acc hx1 hacc
          have hst := numF_step (8 - k) k acc l hlt
          rw [show 8 - k + 1 = 9 - k by omega, ← hx, hr.out, ← hB] at hst
          generalize acc + x * 128 ^ k = acc' at *
          replace hst := Lib.hid hst
          replace hx := Lib.hid hx
          replace hB := Lib.hid hB
          replace hxB := Lib.hid hxB
          replace hnone := Lib.hid hnone
          by_cases hgt : 127 < B
          · go_wp2_with fail
            refine ⟨⟨k + 1, acc', v1, by omega, by omega, by go_num, rfl, hal, Lib.hid ?_, q1, hm1⟩, by simp [intOf]; omega⟩
            rw [hst.out, if_pos hgt, show 9 - (k + 1) = 8 - k by omega]
          · by_cases hz : (0 < k ∧ B = 0) ∨ 4611686018427387904 < acc'
            · have hres : takeN (some l) = (0, none) := by
                have := hst.out
                rw [if_neg hgt, if_pos hz] at this
                simp [takeN, this]
              replace hres := Lib.hid hres
              by_cases hk0 : 0 < k
              · by_cases hz0 : B = 0
                · have hz0' : ((B : Int) == 0) = true := by simp [hz0]
                  clear hz0 hz
                  go_wp2_with (go_at_call 96; refine (rbad_any q1).mono ?_; rintro e w2 ⟨rfl, k1, k2, k3⟩)
                  go_ret
                  rw [hres.out]
                  exact ⟨_, rfl, k1, hm1.then_ k2 (fun _ _ h => h)⟩
                · have hz0' : ((B : Int) == 0) = false := by simp; omega
                  have hbig : 4611686018427387904 < acc' := by omega
                  clear hz0 hz
                  go_wp2_with (go_at_call 96; refine (rbad_any q1).mono ?_; rintro e w2 ⟨rfl, k1, k2, k3⟩)
                  go_ret
                  rw [hres.out]
                  exact ⟨_, rfl, k1, hm1.then_ k2 (fun _ _ h => h)⟩
              · obtain rfl : k = 0 := by omega
                simp at hal
                omega
            · have hres : takeN (some l) = (acc', some (l.drop (k + 1))) := by
                have := hst.out
                rw [if_neg hgt, if_neg hz] at this
                simp [takeN, this]
              replace hres := Lib.hid hres
              have hbig : ¬ 4611686018427387904 < acc' := fun h => hz (.inr h)
              by_cases hk0 : 0 < k
              · have hz0' : ((B : Int) == 0) = false := by simp; omega
                clear hz
                go_wp2_with (fail)
                go_ret
                rw [hres.out]
                exact ⟨_, rfl, q1, hm1⟩
              · have hb0 : decide (0 < (k : Int)) = false := by simp; omega
                clear hz
                go_wp2_with (fail)
                go_ret
                rw [hres.out]
                exact ⟨_, rfl, q1, hm1⟩
      · have hdr : l.drop k = [] := List.drop_of_length_le (by omega)
        rw [hdr] at hrr
        have hres : takeN (some l) = (0, none) := by
          have := hr.out
          rw [hdr] at this
          have h0 : numF (9 - k) k acc [] = none := by cases 9 - k <;> rfl
          rw [h0] at this
          simp [takeN, ← this]
        replace hres := Lib.hid hres
        go_wp2_with fail
        refine (rraw_any hrr 1 (by simp)).mono ?_
        rintro e w1 ⟨v1, x, rfl, q1, q2, q3, q4⟩
        rw [show takeRaw 1 (some ([] : List UInt8)) = ([], none) by decide] at q1 q2
        obtain ⟨h0', h1'⟩ := q1.blk.c1
        go_wp2_with fail
        go_ret
        rw [hres.out]
        exact ⟨v1, rfl, q1, hm.then_ q4 (fun _ _ h => h)⟩
end Go.Proofs.Ytlfooppmdgddkaa
