/- block: two numbers taken at once; bytes.Equal. -/
import Derived.Test.YtlfooppmdgddkaaCelD
import Derived.Test.YtlfooppmdgddkaaOctU
import Derived.Test.YtlfooppmdgddkaaRegA
namespace Go.Proofs.Ytlfooppmdgddkaa
open Go.RowKit
set_option maxRecDepth 100000

set_option maxHeartbeats 4000000 in
theorem equal_any {w : World} {S T : Nat → Prop} {u v : Value} {l m : List UInt8} (h : Bs w S u l) (h' : Bs w T v m) :
    Calls Try.prog 70 #[u, v] w fun e w' => e = .returned (.bool (decide (l = m))) ∧ w' = w := by
  have c1 := run_conv (P := Try.prog) Try.underlying30 Try.underlying5 Try.underlying9 h
  have c2 := run_conv (P := Try.prog) Try.underlying30 Try.underlying5 Try.underlying9 h'
  have hb : (l == m) = decide (l = m) := by rw [Bool.eq_iff_iff, beq_iff_eq, decide_eq_true_eq]
  clear h h'
  go_enter Try.func70, Try.ntmps70
  go_wp2_with fail
  go_ret
  exact ⟨by rw [← hb]; rfl, rfl⟩

theorem add_one' (ad : Addr) : ad.add 1 = ⟨ad.block, ad.off + 1, none⟩ := by simp [Addr.add]
set_option maxHeartbeats 8000000 in
theorem rdnums_two {w : World} {b gc pd : Nat} {S T : Nat → Prop} {v y : Value} {st : Option (List UInt8)} (hrd : Rd w b S v st) {a0 a1 a2 a3 vd : Value} (hc : Blk w gc 23 #[a0, a1, a2, a3]) (hd : Blk w pd 3 #[vd])
    (hy : Sl w T y [.pointer (some ⟨gc, 3, none⟩), .pointer (some ⟨pd, 0, none⟩)]) (hT : ∀ k, k < w.heap.size → T k → ¬ (k = b ∨ k = gc ∨ k = pd)) (hS : ∀ k, S k → k ≠ gc ∧ k ≠ pd) (hab : gc ≠ b) (hcb : pd ≠ b) (hac : gc ≠ pd) :
    Calls Try.prog 94 #[.pointer (some ⟨b, 0, none⟩), y] w fun e w' => e = .returned (.tuple #[]) ∧ ∃ v', Rd w' b S v' (takeN (takeN st).2).2 ∧
      Blk w' gc 23 #[a0, a1, a2, .int .i64 (takeN st).1] ∧ Blk w' pd 3 #[.int .i64 (takeN (takeN st).2).1] ∧ Mod (fun k => k = b ∨ k = gc ∨ k = pd) w w' := by
  obtain ⟨A, c, rfl, h1, h2, h3, h4⟩ := hy
  simp only [List.length_cons, List.length_nil, Nat.zero_add, Nat.reduceAdd]
  go_enter Try.func94, Try.ntmps94
  go_wp2
  go_loopw [9] (fun i wr => ∃ (k : Nat) (v' ua uc : Value) (s : Option (List UInt8)), k ≤ 2 ∧ i = .int .i64 k ∧ Rd wr b S v' s ∧ Blk wr gc 23 #[a0, a1, a2, ua] ∧ Blk wr pd 3 #[uc] ∧ Mod (fun k => k = b ∨ k = gc ∨ k = pd) w wr ∧
      Hid ((k = 0 → s = st) ∧ (k = 1 → s = (takeN st).2) ∧ (k = 2 → s = (takeN (takeN st).2).2) ∧ (0 < k → ua = .int .i64 (takeN st).1) ∧ (k = 2 → uc = .int .i64 (takeN (takeN st).2).1))) (fun i _ => 2 - (intOf i).toNat)
  case atStart => exact ⟨0, v, a3, vd, st, by omega, rfl, hrd, hc, hd, Mod.refl _ _, ⟨fun _ => rfl, fun h => by omega, fun h => by omega, fun h => by omega, fun h => by omega⟩⟩
  case round =>
    obtain ⟨k, v', ua, uc, s, hk, rfl, hr, hba, hbc, hm, hf⟩ := hrel
    by_cases hlt : k < 2
    · have hone : ∀ {w2 : World} {v2 : Value}, Rd w2 b S v2 (takeN s).2 → Mod (fun k => k = b) wr w2 → Blk w2 gc 23 #[a0, a1, a2, ua] ∧ Blk w2 pd 3 #[uc] ∧ Mod (fun k => k = b ∨ k = gc ∨ k = pd) w w2 := fun _ g2 =>
        ⟨hba.mod g2 hab, hbc.mod g2 hcb, hm.then_ g2 (fun _ _ h => .inl h)⟩
      rcases (show k = 0 ∨ k = 1 by omega) with rfl | rfl
      · obtain ⟨ad, rfl, hs, hcell⟩ := (h4.mod hm hT) 0 _ rfl
        have hc0 : wr.cell? ad = some (.pointer (some ⟨gc, 3, none⟩)) := hcell
        have hs0 := hf.out.1 rfl
        subst hs0
        clear hcell
        go_wp2_with fail
        refine (num_any hr).mono ?_; rintro e w2 ⟨v2, rfl, g1, g2, g3⟩
        obtain ⟨q1, q2, q3⟩ := hone g1 g2
        have hca : _ = some _ := Blk.cell q1 3
        have hfa := q1.frozen 3
        go_wp2_with fail
        have hset : ∀ u, Mod (fun k => k = gc) w2 (w2.setCell ⟨gc, 3, none⟩ u) := fun u => (Mod.refl (fun k => k = gc) w2).setCell (fun _ => rfl) u
        exact ⟨⟨1, v2, _, uc, (takeN s).2, by omega, rfl, g1.mod (hset _) (fun h => hab h.symm) (fun k _ hk e => (hS k hk).1 e), q1.set_ 3 _, q2.far (p := ⟨gc, 3, none⟩) (fun e => hac e.symm) _, q3.then_ (hset _) (fun _ _ h => .inr (.inl h)),
          ⟨fun h => by omega, fun _ => rfl, fun h => by omega, fun _ => rfl, fun h => by omega⟩⟩, by simp [intOf]⟩
      · obtain ⟨ad, rfl, hs, hcell⟩ := (h4.mod hm hT) 1 _ rfl
        rw [add_one' ad] at hcell
        have hs0 := hf.out.2.1 rfl
        have ha0 := hf.out.2.2.2.1 (by omega)
        subst hs0
        subst ha0
        go_wp2_with fail
        refine (num_any hr).mono ?_; rintro e w2 ⟨v2, rfl, g1, g2, g3⟩
        obtain ⟨q1, q2, q3⟩ := hone g1 g2
        have hcc := q2.c0
        have hfc := q2.frozen 0
        go_wp2_with fail
        have hset : ∀ u, Mod (fun k => k = pd) w2 (w2.setCell ⟨pd, 0, none⟩ u) := fun u => (Mod.refl (fun k => k = pd) w2).setCell (fun _ => rfl) u
        exact ⟨⟨2, v2, _, _, _, by omega, rfl, g1.mod (hset _) (fun h => hcb h.symm) (fun k _ hk e => (hS k hk).2 e), q1.far (p := ⟨pd, 0, none⟩) hac _, q2.set_ 0 _, q3.then_ (hset _) (fun _ _ h => .inr (.inr h)),
          ⟨fun h => by omega, fun h => by omega, fun _ => rfl, fun _ => rfl, fun _ => rfl⟩⟩, by simp [intOf]⟩
    · obtain rfl : k = 2 := by omega
      have hs0 := hf.out.2.2.1 rfl
      have ha0 := hf.out.2.2.2.1 (by omega)
      have hc0 := hf.out.2.2.2.2 rfl
      subst hs0
      subst ha0
      subst hc0
      go_wp2_with fail
      go_end0
      exact ⟨rfl, ⟨v', hr⟩, hba, hbc, hm⟩
end Go.Proofs.Ytlfooppmdgddkaa
