/- dn: the document's reader: typ. -/
import Derived.Test.YtacmbomnjedbeaaDnQA
namespace Go.Proofs.Ytacmbomnjedbeaa
open Go.RowKit
set_option maxRecDepth 100000

def typQ (b : UInt8) : Bool := !decide (b = 32) && !decide (b = 61)
def TkP (p : UInt8 → Bool) (s : List UInt8) (a j : Nat) : Prop := (s.drop a).takeWhile p = (s.drop a).take (j - a) ++ (s.drop j).takeWhile p ∧ (s.drop a).dropWhile p = (s.drop j).dropWhile p
theorem TkP.start (p : UInt8 → Bool) (s : List UInt8) (a : Nat) : TkP p s a a := ⟨by simp, rfl⟩
theorem TkP.next {p : UInt8 → Bool} {s : List UInt8} {a j : Nat} {c : UInt8} (h : TkP p s a j) (ha : a ≤ j) (hj : j < s.length) (hd : s.drop j = c :: s.drop (j + 1)) (hp : p c = true) : TkP p s a (j + 1) := by
  obtain ⟨h1, h2⟩ := h
  refine ⟨?_, ?_⟩
  · rw [h1, hd, List.takeWhile_cons, if_pos hp]
    have ht : (s.drop a).take (j + 1 - a) = (s.drop a).take (j - a) ++ [c] := by
      have hc : c = s[j] := by rw [List.drop_eq_getElem_cons hj] at hd; injection hd with h _; exact h.symm
      rw [show j + 1 - a = (j - a) + 1 by omega, List.take_succ_eq_append_getElem (by rw [List.length_drop]; omega), List.getElem_drop, hc]
      congr 2
      congr 1
      omega
    rw [ht, List.append_assoc]
    rfl
  · rw [h2, hd, List.dropWhile_cons, if_pos hp]
theorem TkP.stop {p : UInt8 → Bool} {s : List UInt8} {a j : Nat} {c : UInt8} (h : TkP p s a j) (hd : s.drop j = c :: s.drop (j + 1)) (hp : p c = false) : (s.drop a).takeWhile p = (s.drop a).take (j - a) ∧ s.drop j = (s.drop a).dropWhile p := by
  obtain ⟨h1, h2⟩ := h
  rw [h1, h2, hd, List.takeWhile_cons, List.dropWhile_cons, hp]
  exact ⟨by simp, by simp⟩
theorem TkP.end_ {p : UInt8 → Bool} {s : List UInt8} {a j : Nat} (h : TkP p s a j) (hd : s.drop j = []) : (s.drop a).takeWhile p = (s.drop a).take (j - a) ∧ s.drop j = (s.drop a).dropWhile p := by
  obtain ⟨h1, h2⟩ := h
  rw [h1, h2, hd]
  exact ⟨by simp, rfl⟩

set_option maxHeartbeats 8000000 in
theorem qtyp_any {w : World} {g : Nat} {s : List UInt8} {k : Nat} (h : Rq w g s k) (hk : k ≤ s.length) (hl : s.length ≤ 140737488351232) :
    Calls Try.prog 65 #[.pointer (some ⟨g, 0, none⟩)] w fun e w' => e = .returned (sv ((s.drop k).takeWhile typQ)) ∧ ∃ j, k ≤ j ∧ j ≤ s.length ∧ s.drop j = (s.drop k).dropWhile typQ ∧ Rq w' g s j ∧ Mod (fun b => b = g) w w' := by
  have hsz := sv_size s
  obtain ⟨c0, c1⟩ := h.c
  go_enter Try.func65, Try.ntmps65
  go_wp2_with fail
  clear c0 c1
  go_loopw [] (fun wr => ∃ j : Nat, k ≤ j ∧ j ≤ s.length ∧ Hid (TkP typQ s k j) ∧ Rq wr g s j ∧ Mod (fun b => b = g) w wr) (fun wr => s.length - rdAt wr g)
  case atStart => exact ⟨k, Nat.le_refl _, hk, Lib.hid (TkP.start _ _ _), h, Mod.refl _ _⟩
  case round =>
    obtain ⟨j, hj, hjl, hs, hr, hm⟩ := hrel
    obtain ⟨c0, c1⟩ := hr.c
    have z1 : wr.frozen? ⟨g, 1, none⟩ = false := Blk.frozen hr 1
    have hat := hr.at_
    have hj0 : (0 : Int) ≤ (k : Int) := by omega
    have hj1 : (k : Int) ≤ (j : Int) := by omega
    have hj2 : (j : Int) ≤ (s.length : Int) := by omega
    by_cases hlt : j < s.length
    · have hb1 : decide ((j : Int) < (s.length : Int)) = true := dtrue (by omega)
      obtain ⟨c, hdr, hg⟩ := get_at hlt
      have hi0 : (0 : Int) ≤ (j : Int) := by omega
      have hi1 : (j : Int) < (s.length : Int) := by omega
      have hq : ((c.toNat : Int) != 32) = !decide (c = 32) := bne_lit c 32
      have hp : ((c.toNat : Int) != 61) = !decide (c = 61) := bne_lit c 61
      by_cases hc : c = 32
      · rw [dtrue hc] at hq
        have hT := Lib.hid (hs.out.stop hdr (by rw [hc]; rfl))
        clear hdr hc hs hp
        simp only [Bool.not_true] at hq
        go_wp2_with fail
        go_quiet (fail)
        obtain ⟨w3, hw3⟩ : ∃ x, x = wr.drewN nq := ⟨_, rfl⟩
        rw [← hw3]
        have x3 : Ext wr w3 := by rw [hw3]; exact (Mod.refl _ wr).drewN nq
        clear hw3 c0 c1 z1
        have hr3 := hr.mod x3 (fun h => h)
        obtain ⟨c0, c1⟩ := hr3.c
        have z1 : w3.frozen? ⟨g, 1, none⟩ = false := Blk.frozen hr3 1
        have m3 : Mod (fun b => b = g) w w3 := hm.then_ x3 (fun _ _ h => h.elim)
        go_wp2_with fail
        go_quiet (fail)
        obtain ⟨w4, hw4⟩ : ∃ x, x = w3.drewN nq := ⟨_, rfl⟩
        rw [← hw4]
        have x4 : Ext w3 w4 := by rw [hw4]; exact (Mod.refl _ w3).drewN nq
        clear hw4 c0 c1 z1
        go_wp2_with fail
        go_ret
        exact ⟨by rw [hT.out.1]; exact congrArg (fun b => Ending.returned (.string b)) (ext_sv s k j), j, hj, hjl, hT.out.2, hr3.mod x4 (fun h => h), m3.then_ x4 (fun _ _ h => h.elim)⟩
      rw [dfalse hc] at hq
      simp only [Bool.not_false] at hq
      by_cases hd : c = 61
      · rw [dtrue hd] at hp
        have hT := Lib.hid (hs.out.stop hdr (by rw [hd]; rfl))
        clear hdr hc hd hs
        simp only [Bool.not_true] at hp
        go_wp2_with fail
        go_quiet (fail)
        obtain ⟨w3, hw3⟩ : ∃ x, x = wr.drewN nq := ⟨_, rfl⟩
        rw [← hw3]
        have x3 : Ext wr w3 := by rw [hw3]; exact (Mod.refl _ wr).drewN nq
        clear hw3 c0 c1 z1
        have hr3 := hr.mod x3 (fun h => h)
        obtain ⟨c0, c1⟩ := hr3.c
        have z1 : w3.frozen? ⟨g, 1, none⟩ = false := Blk.frozen hr3 1
        have m3 : Mod (fun b => b = g) w w3 := hm.then_ x3 (fun _ _ h => h.elim)
        go_wp2_with fail
        go_quiet (fail)
        obtain ⟨w4, hw4⟩ : ∃ x, x = w3.drewN nq := ⟨_, rfl⟩
        rw [← hw4]
        have x4 : Ext w3 w4 := by rw [hw4]; exact (Mod.refl _ w3).drewN nq
        clear hw4 c0 c1 z1
        go_wp2_with fail
        go_ret
        exact ⟨by rw [hT.out.1]; exact congrArg (fun b => Ending.returned (.string b)) (ext_sv s k j), j, hj, hjl, hT.out.2, hr3.mod x4 (fun h => h), m3.then_ x4 (fun _ _ h => h.elim)⟩
      · rw [dfalse hd] at hp
        have hT := Lib.hid (hs.out.next hj hlt hdr (by unfold typQ; rw [dfalse hc, dfalse hd]; rfl))
        clear hdr hc hd hs
        simp only [Bool.not_false] at hp
        go_wp2_with fail
        go_quiet (fail)
        obtain ⟨w3, hw3⟩ : ∃ x, x = wr.drewN nq := ⟨_, rfl⟩
        rw [← hw3]
        have x3 : Ext wr w3 := by rw [hw3]; exact (Mod.refl _ wr).drewN nq
        clear hw3 c0 c1 z1
        have hr3 := hr.mod x3 (fun h => h)
        obtain ⟨c0, c1⟩ := hr3.c
        have z1 : w3.frozen? ⟨g, 1, none⟩ = false := Blk.frozen hr3 1
        have m3 : Mod (fun b => b = g) w w3 := hm.then_ x3 (fun _ _ h => h.elim)
        go_wp2_with fail
        have hr4 := hr3.step (j + 1) ((j : Int) + 1) (by omega)
        refine ⟨⟨j + 1, by omega, by omega, hT, hr4, m3.setCell (p := ⟨g, 1, none⟩) (fun _ => rfl) _⟩, ?_⟩
        rw [hr4.at_, hat]; omega
    · have hb1 : decide ((j : Int) < (s.length : Int)) = false := dfalse (by omega)
      have hT := Lib.hid (hs.out.end_ (drop_end hlt))
      go_wp2_with fail
      go_quiet (fail)
      obtain ⟨w3, hw3⟩ : ∃ x, x = wr.drewN nq := ⟨_, rfl⟩
      rw [← hw3]
      have x3 : Ext wr w3 := by rw [hw3]; exact (Mod.refl _ wr).drewN nq
      clear hw3 c0 c1 z1
      have hr3 := hr.mod x3 (fun h => h)
      obtain ⟨c0, c1⟩ := hr3.c
      have z1 : w3.frozen? ⟨g, 1, none⟩ = false := Blk.frozen hr3 1
      have m3 : Mod (fun b => b = g) w w3 := hm.then_ x3 (fun _ _ h => h.elim)
      go_wp2_with fail
      go_quiet (fail)
      obtain ⟨w4, hw4⟩ : ∃ x, x = w3.drewN nq := ⟨_, rfl⟩
      rw [← hw4]
      have x4 : Ext w3 w4 := by rw [hw4]; exact (Mod.refl _ w3).drewN nq
      clear hw4 c0 c1 z1
      go_wp2_with fail
      go_ret
      exact ⟨by rw [hT.out.1]; exact congrArg (fun b => Ending.returned (.string b)) (ext_sv s k j), j, hj, hjl, hT.out.2, hr3.mod x4 (fun h => h), m3.then_ x4 (fun _ _ h => h.elim)⟩
end Go.Proofs.Ytacmbomnjedbeaa
