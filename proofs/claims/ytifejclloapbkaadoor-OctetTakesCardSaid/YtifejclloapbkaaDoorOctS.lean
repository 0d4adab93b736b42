/- octet: several numbers taken into places; the document's rows. -/
import Derived.Test.YtifejclloapbkaaDoorOctP
import Derived.Test.YtifejclloapbkaaDoorOctQ
namespace Go.Proofs.YtifejclloapbkaaDoor
open Go.RowKit
set_option maxRecDepth 100000

set_option maxHeartbeats 800000 in
theorem rrbytes_any {w : World} {b : Nat} {S : Nat → Prop} {v : Value} {st : Option (List UInt8)} (hrd : Rr w b S v st) (hl : (st.getD []).length ≤ 140737488355328) :
    Calls Tryd.prog 31 #[.pointer (some ⟨b, 0, none⟩)] w fun e w' => ∃ v' v1, e = .returned v1 ∧ Rr w' b S v' (takeB st).2 ∧ Own w' 5 v1 ((takeB st).1.map bv) ∧ Fresh w.heap.size v1 ∧ Mod (fun k => k = b) w w' := by
  have hle := takeN_len st
  go_enter Tryd.func31, Tryd.ntmps31
  go_wp2_with fail
  refine (rrnum_any hrd hl).mono ?_
  rintro e w1 ⟨v1, rfl, g1, g2⟩
  obtain ⟨h0, h1⟩ := g1.blk.c1
  cases hs : (takeN st).2 with
  | none =>
    have hb : takeB st = ([], none) := by
      unfold takeB
      rw [hs]; rfl
    replace hb := Lib.hid hb
    rw [hs] at g1 h1
    clear hs hle
    go_wp2_with fail
    go_ret
    rw [hb.out]
    exact ⟨v1, _, rfl, g1, Own.nil _ _, fresh_nil _ _ _, g2⟩
  | some l =>
    have hb : takeB st = takeRaw (takeN st).1 (some l) := by unfold takeB; rw [hs]
    replace hb := Lib.hid hb
    rw [hs] at g1 h1 hle
    clear hs
    go_wp2_with fail
    refine (rraw_any g1 _ (by omega)).mono ?_
    rintro e w2 ⟨v2, v3, rfl, k1, k2, k3, k4⟩
    go_wp2_with fail
    go_ret
    rw [hb.out]
    exact ⟨v2, v3, rfl, k1, k2, k3.mono g2.size, g2.trans k4 (fun _ _ h => h) (fun _ _ h => h)⟩

set_option maxHeartbeats 800000 in
theorem rdnums_three {w : World} {b pa pc : Nat} {S T : Nat → Prop} {v y : Value} {st : Option (List UInt8)} (hrd : Rd w b S v st) {va vc : Value} (ha : Blk w pa 3 #[va]) (hc : Blk w pc 3 #[vc])
    (hy : Sl w T y [.pointer (some ⟨pa, 0, none⟩), .pointer none, .pointer (some ⟨pc, 0, none⟩)]) (hT : ∀ k, k < w.heap.size → T k → ¬ (k = b ∨ k = pa ∨ k = pc)) (hS : ∀ k, S k → k ≠ pa ∧ k ≠ pc) (hab : pa ≠ b) (hcb : pc ≠ b) (hac : pa ≠ pc) :
    Calls Tryd.prog 35 #[.pointer (some ⟨b, 0, none⟩), y] w fun e w' => e = .returned (.tuple #[]) ∧ ∃ v', Rd w' b S v' (takeN (takeN (takeN st).2).2).2 ∧
      Blk w' pa 3 #[.int .i64 (takeN st).1] ∧ Blk w' pc 3 #[.int .i64 (takeN (takeN (takeN st).2).2).1] ∧ Mod (fun k => k = b ∨ k = pa ∨ k = pc) w w' := by
  obtain ⟨A, c, rfl, h1, h2, h3, h4⟩ := hy
  simp only [List.length_cons, List.length_nil, Nat.zero_add, Nat.reduceAdd]
  go_enter Tryd.func35, Tryd.ntmps35
  go_wp2
  go_loopw [9] (fun i wr => ∃ (k : Nat) (v' ua uc : Value) (s : Option (List UInt8)), k ≤ 3 ∧ i = .int .i64 k ∧ Rd wr b S v' s ∧ Blk wr pa 3 #[ua] ∧ Blk wr pc 3 #[uc] ∧ Mod (fun k => k = b ∨ k = pa ∨ k = pc) w wr ∧
      Hid ((k = 0 → s = st) ∧ (k = 1 → s = (takeN st).2) ∧ (k = 2 → s = (takeN (takeN st).2).2) ∧ (k = 3 → s = (takeN (takeN (takeN st).2).2).2) ∧ (0 < k → ua = .int .i64 (takeN st).1) ∧ (k = 3 → uc = .int .i64 (takeN (takeN (takeN st).2).2).1))) (fun i _ => 3 - (intOf i).toNat)
  case atStart => exact ⟨0, v, va, vc, st, by omega, rfl, hrd, ha, hc, Mod.refl _ _, ⟨fun _ => rfl, fun h => by omega, fun h => by omega, fun h => by omega, fun h => by omega, fun h => by omega⟩⟩
  case round =>
    obtain ⟨k, v', ua, uc, s, hk, rfl, hr, hba, hbc, hm, hf⟩ := hrel
    by_cases hlt : k < 3
    · have hone : ∀ {w2 : World} {v2 : Value}, Rd w2 b S v2 (takeN s).2 → Mod (fun k => k = b) wr w2 → Blk w2 pa 3 #[ua] ∧ Blk w2 pc 3 #[uc] ∧ Mod (fun k => k = b ∨ k = pa ∨ k = pc) w w2 := fun _ g2 =>
        ⟨hba.mod g2 hab, hbc.mod g2 hcb, hm.then_ g2 (fun _ _ h => .inl h)⟩
      rcases (show k = 0 ∨ k = 1 ∨ k = 2 by omega) with rfl | rfl | rfl
      · obtain ⟨ad, rfl, hs, hcell⟩ := (h4.mod hm hT) 0 _ rfl
        have hc0 : wr.cell? ad = some (.pointer (some ⟨pa, 0, none⟩)) := hcell
        have hs0 := hf.out.1 rfl
        subst hs0
        clear hcell
        go_wp2_with fail
        refine (num_any hr).mono ?_; rintro e w2 ⟨v2, rfl, g1, g2, g3⟩
        obtain ⟨q1, q2, q3⟩ := hone g1 g2
        have hca := q1.c0
        have hfa := q1.frozen 0
        go_wp2_with fail
        have hset : ∀ u, Mod (fun k => k = pa) w2 (w2.setCell ⟨pa, 0, none⟩ u) := fun u => (Mod.refl (fun k => k = pa) w2).setCell (fun _ => rfl) u
        exact ⟨⟨1, v2, _, uc, (takeN s).2, by omega, rfl, g1.mod (hset _) (fun h => hab h.symm) (fun k _ hk e => (hS k hk).1 e), q1.set_ 0 _, q2.far (p := ⟨pa, 0, none⟩) (fun e => hac e.symm) _, q3.then_ (hset _) (fun _ _ h => .inr (.inl h)),
          ⟨fun h => by omega, fun _ => rfl, fun h => by omega, fun h => by omega, fun _ => rfl, fun h => by omega⟩⟩, by simp [intOf]⟩
      · obtain ⟨ad, rfl, hs, hcell⟩ := (h4.mod hm hT) 1 _ rfl
        rw [add_succ ad 0] at hcell
        simp only [Nat.zero_add] at hcell
        have hs0 := hf.out.2.1 rfl
        have ha0 := hf.out.2.2.2.2.1 (by omega)
        subst hs0
        subst ha0
        go_wp2_with fail
        refine (num_any hr).mono ?_; rintro e w2 ⟨v2, rfl, g1, g2, g3⟩
        obtain ⟨q1, q2, q3⟩ := hone g1 g2
        go_wp2_with fail
        exact ⟨⟨2, v2, _, uc, _, by omega, rfl, g1, q1, q2, q3, ⟨fun h => by omega, fun h => by omega, fun _ => rfl, fun h => by omega, fun _ => rfl, fun h => by omega⟩⟩, by simp [intOf]⟩
      · obtain ⟨ad, rfl, hs, hcell⟩ := (h4.mod hm hT) 2 _ rfl
        rw [add_succ ad 1] at hcell
        simp only [Nat.reduceAdd] at hcell
        have hs0 := hf.out.2.2.1 rfl
        have ha0 := hf.out.2.2.2.2.1 (by omega)
        subst hs0
        subst ha0
        go_wp2_with fail
        refine (num_any hr).mono ?_; rintro e w2 ⟨v2, rfl, g1, g2, g3⟩
        obtain ⟨q1, q2, q3⟩ := hone g1 g2
        have hcc := q2.c0
        have hfc := q2.frozen 0
        go_wp2_with fail
        have hset : ∀ u, Mod (fun k => k = pc) w2 (w2.setCell ⟨pc, 0, none⟩ u) := fun u => (Mod.refl (fun k => k = pc) w2).setCell (fun _ => rfl) u
        exact ⟨⟨3, v2, _, _, _, by omega, rfl, g1.mod (hset _) (fun h => hcb h.symm) (fun k _ hk e => (hS k hk).2 e), q1.far (p := ⟨pc, 0, none⟩) hac _, q2.set_ 0 _, q3.then_ (hset _) (fun _ _ h => .inr (.inr h)),
          ⟨fun h => by omega, fun h => by omega, fun h => by omega, fun _ => rfl, fun _ => rfl, fun _ => rfl⟩⟩, by simp [intOf]⟩
    · obtain rfl : k = 3 := by omega
      have hs0 := hf.out.2.2.2.1 rfl
      have ha0 := hf.out.2.2.2.2.1 (by omega)
      have hc0 := hf.out.2.2.2.2.2 rfl
      subst hs0
      subst ha0
      subst hc0
      go_wp2_with fail
      go_end0
      exact ⟨rfl, ⟨v', hr⟩, hba, hbc, hm⟩
end Go.Proofs.YtifejclloapbkaaDoor
