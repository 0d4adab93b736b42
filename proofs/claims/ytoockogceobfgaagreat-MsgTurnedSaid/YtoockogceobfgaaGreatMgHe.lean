/- msg: what a request that is not heavy may be asked for. -/
import Derived.Test.YtoockogceobfgaaGreatMgHcm
import Derived.Test.YtoockogceobfgaaGreatMgUm
import Derived.Test.YtoockogceobfgaaGreatMgX
import Derived.Test.YtoockogceobfgaaGreatMgQb
namespace Go.Proofs.YtoockogceobfgaaGreat
open Go.RowKit
set_option maxRecDepth 100000

set_option maxHeartbeats 4000000 in
theorem lists_of {n : Nat} {r : Rq} (hf : fitsQ n r = true) (hs : sameQ n r (bareQ r) = true) : listsQ r = true ∧ (r.kind = 3 → isN n r.fil = true) := by
  have hs0 := hs
  rw [sameQ_iff, plainQ_iff] at hs
  obtain ⟨⟨s1, s2, s3, s4, s5, s6, s7, s8, s9, s10, s11, s12⟩, s13, s14, s15, s16⟩ := hs
  simp only [bareQ] at s5 s6 s9 s10 s12 s13 s14 s16
  unfold fitsQ at hf
  have e1 : r.want = [] → r.want.length ≤ 64 := fun h => by rw [h]; simp
  have e2 : r.mods = [] → r.mods.length ≤ 64 ∧ r.mods.all mdQ = true := fun h => by rw [h]; simp
  have e3 : r.ats = [] → r.ats.length ≤ 64 ∧ r.ats.all atQ = true := fun h => by rw [h]; simp
  have ho : isOp r.kind := by
    unfold isOp
    by_cases q0 : r.kind = 0 ∨ r.kind = 2 ∨ r.kind = 10 ∨ r.kind = 14
    · omega
    rw [if_neg q0] at hf
    by_cases q1 : r.kind = 3
    · omega
    rw [if_neg q1] at hf
    by_cases q2 : r.kind = 6
    · omega
    rw [if_neg q2] at hf
    by_cases q3 : r.kind = 8
    · omega
    rw [if_neg q3] at hf
    by_cases q4 : r.kind = 12
    · omega
    rw [if_neg q4] at hf
    by_cases q5 : r.kind = 16
    · omega
    rw [if_neg q5] at hf
    cases hf
  have hsc : r.kind ≠ 3 → r.scope = 0 ∧ r.limit = 0 ∧ r.want = [] := fun h => by
    rw [if_neg h] at s5 s6 s13
    exact ⟨s5, s6, s13⟩
  have hwh : r.kind ≠ 16 → r.which = 0 := fun h => by rw [if_neg h] at s12; exact s12
  have hmo : r.kind ≠ 6 → r.mods = [] := fun h => by rw [if_neg h] at s16; exact s16
  have hat : r.kind ≠ 8 → r.ats = [] := fun h => by rw [if_neg h] at s14; exact s14
  have hab : r.kind ≠ 12 → r.up = [] := fun h => by rw [if_neg h] at s10; exact s10
  have k3 : r.kind = 3 → 0 ≤ r.scope ∧ r.scope ≤ 2 ∧ (0 ≤ r.limit ∧ r.limit ≤ 2147483647) ∧ isN n r.fil = true ∧ r.want.length ≤ 64 := fun h => by
    rw [if_neg (by omega), if_pos h] at hf
    simpa only [Bool.and_eq_true, decide_eq_true_eq, numQ] using hf
  have k6 : r.kind = 6 → r.mods.length ≤ 64 ∧ r.mods.all mdQ = true := fun h => by
    rw [if_neg (by omega), if_neg (by omega), if_pos h] at hf
    simpa only [Bool.and_eq_true, decide_eq_true_eq] using hf
  have k8 : r.kind = 8 → r.ats.length ≤ 64 ∧ r.ats.all atQ = true := fun h => by
    rw [if_neg (by omega), if_neg (by omega), if_neg (by omega), if_pos h] at hf
    simpa only [Bool.and_eq_true, decide_eq_true_eq] using hf
  have k12 : r.kind = 12 → r.above = false → r.up = [] := fun h ha => by
    rw [if_neg (by omega), if_neg (by omega), if_neg (by omega), if_neg (by omega), if_pos h, ha] at hf
    simpa using hf
  have k16 : r.kind = 16 → 0 ≤ r.which ∧ r.which ≤ 2147483647 := fun h => by
    rw [if_neg (by omega), if_neg (by omega), if_neg (by omega), if_neg (by omega), if_neg (by omega), if_pos h] at hf
    simpa only [decide_eq_true_eq, numQ] using hf
  clear hf s1 s2 s3 s4 s5 s6 s7 s8 s9 s10 s11 s12 s13 s14 s15 s16
  have a3 : 0 ≤ r.scope ∧ r.scope ≤ 2 ∧ (0 ≤ r.limit ∧ r.limit ≤ 2147483647) ∧ r.want.length ≤ 64 := by
    by_cases h : r.kind = 3
    · obtain ⟨p1, p2, p3, _, p5⟩ := k3 h
      exact ⟨p1, p2, p3, p5⟩
    · obtain ⟨p1, p2, p3⟩ := hsc h
      exact ⟨by omega, by omega, by omega, e1 p3⟩
  have a6 : r.mods.length ≤ 64 ∧ r.mods.all mdQ = true := by
    by_cases h : r.kind = 6
    · exact k6 h
    · exact e2 (hmo h)
  have a8 : r.ats.length ≤ 64 ∧ r.ats.all atQ = true := by
    by_cases h : r.kind = 8
    · exact k8 h
    · exact e3 (hat h)
  have a16 : 0 ≤ r.which ∧ r.which ≤ 2147483647 := by
    by_cases h : r.kind = 16
    · exact k16 h
    · have := hwh h; omega
  refine ⟨?_, fun h => (k3 h).2.2.2.1⟩
  unfold listsQ
  rw [a6.2, a8.2, dtrue ⟨a3.2.2.2, a6.1, a8.1⟩]
  rfl
theorem isN_kd {n : Nat} {r : Rq} (hh : heavyQ n r = false) (h : isN n r.fil = true) : KdN n r.fil ∧ KrN n r.fil := by
  unfold isN at h
  simp only [Bool.and_eq_true, decide_eq_true_eq] at h
  exact one_kd n r.fil 1 h.1 (light_q hh).2
theorem rfit_of {n : Nat} {r : Rq} (hh : heavyQ n r = false) (hn : NFit r) : RFit r := by
  have h1 := (light_q hh).1
  unfold wR0 at h1
  exact ⟨hn.sc, hn.li, hn.wh, hn.md, by omega, by omega, by omega, by omega, by omega, by omega⟩
theorem enc_hk {n : Nat} {r : Rq} (hg : listsQ r = true → heavyQ n r = false) (hn : NFit r) : fitsQ n r = true → sameQ n r (bareQ r) = true → RFit r ∧ (r.kind = 3 → KdN n r.fil) ∧ (reqB n r).length ≤ 65536 := fun hf hs => by
  obtain ⟨h1, h2⟩ := lists_of hf hs
  have hh := hg h1
  have hk : r.kind = 3 → KdN n r.fil := fun e => (isN_kd hh (h2 e)).1
  exact ⟨rfit_of hh hn, hk, req_len hh (fitsQ_op hf) h1 hk⟩
theorem is_hk {n : Nat} {r : Rq} (hg : listsQ r = true → heavyQ n r = false) (hn : NFit r) : isOp r.kind → listsQ r = true → (r.kind = 3 → isN n r.fil = true) → sameQ n r (bareQ r) = true → RFit r ∧ (r.kind = 3 → KrN n r.fil) ∧ (reqB n r).length ≤ 65536 := fun ho hl h2 _ =>
  ⟨rfit_of (hg hl) hn, fun e => (isN_kd (hg hl) (h2 e)).2, req_len (hg hl) ho hl (fun e => (isN_kd (hg hl) (h2 e)).1)⟩
theorem hnod_of {n : Nat} {r : Rq} (h1 : wF25 n r.fil ≤ 1500) : nodesN n r.fil ≤ 1000000 := by
  have h2 := nodes_w25 n r.fil
  omega
theorem sameQ_refl {n : Nat} {w : World} {r : Rq} {vs vk vW vM vA : Value} (h : RqAt n w r vs vk vW vM vA) : sameQ n r r = true := by
  rw [sameQ_iff, plainQ_iff]
  exact ⟨⟨rfl, rfl, rfl, rfl, rfl, rfl, rfl, rfl, rfl, rfl, ⟨rfl, rfl⟩, rfl⟩, rfl, rfl, eqN_refl h.fil, rfl⟩
theorem RqAt.more {n m : Nat} {w : World} {r : Rq} {vs vk vW vM vA : Value} (h : RqAt n w r vs vk vW vM vA) (hm : n ≤ m) : RqAt m w r vs vk vW vM vA := ⟨h.fil.more hm, h.want, h.mods, h.ats⟩
end Go.Proofs.YtoockogceobfgaaGreat
