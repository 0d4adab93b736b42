/- dn: the document's reader: blanks, typ. -/
import Derived.Test.YtacmbomnjedbeaaDnPO
import Derived.BigQuiet
namespace Go.Proofs.Ytacmbomnjedbeaa
open Go.RowKit
set_option maxRecDepth 100000

/-- The document's reader g over s has come to k. -/
def Rq (w : World) (g : Nat) (s : List UInt8) (k : Nat) : Prop := Blk w g 71 #[sv s, .int .i64 k]
theorem Rq.c {w : World} {g : Nat} {s : List UInt8} {k : Nat} (h : Rq w g s k) : w.cell? ⟨g, 0, none⟩ = some (sv s) ∧ w.cell? ⟨g, 1, none⟩ = some (.int .i64 k) := ⟨Blk.cell h 0, Blk.cell h 1⟩
theorem Rq.mod {w w' : World} {g : Nat} {s : List UInt8} {k : Nat} {F : Nat → Prop} (h : Rq w g s k) (hm : Mod F w w') (hg : ¬ F g) : Rq w' g s k := Blk.mod h hm hg
theorem Rq.step {w : World} {g : Nat} {s : List UInt8} {k : Nat} (h : Rq w g s k) (j : Nat) (u : Int) (hu : u = (j : Int)) : Rq (w.setCell ⟨g, 1, none⟩ (.int .i64 u)) g s j := by subst hu; exact Blk.set_ h 1 _
theorem Rq.at_ {w : World} {g : Nat} {s : List UInt8} {k : Nat} (h : Rq w g s k) : rdAt w g = k := by
  unfold rdAt
  rw [h.c.2]
  simp [intOf]
theorem get_at {s : List UInt8} {k : Nat} (h : k < s.length) : ∃ c, s.drop k = c :: s.drop (k + 1) ∧ ∀ h', (⟨s.toArray⟩ : ByteArray)[k]'h' = c :=
  ⟨s[k], List.drop_eq_getElem_cons h, fun h' => sv_get s k h h'⟩
theorem drop_end {s : List UInt8} {k : Nat} (h : ¬ k < s.length) : s.drop k = [] := List.drop_of_length_le (by omega)
theorem beq_lit (c x : UInt8) : ((c.toNat : Int) == (x.toNat : Int)) = decide (c = x) := by
  rw [Bool.eq_iff_iff, beq_iff_eq, decide_eq_true_eq, ← UInt8.toNat_inj]; omega
theorem bne_lit (c x : UInt8) : ((c.toNat : Int) != (x.toNat : Int)) = !decide (c = x) := by
  rw [bne, beq_lit]

set_option maxHeartbeats 4000000 in
theorem qblanks_any {w : World} {g : Nat} {s : List UInt8} {k : Nat} (h : Rq w g s k) (hk : k ≤ s.length) (hl : s.length ≤ 140737488351232) :
    Calls Try.prog 64 #[.pointer (some ⟨g, 0, none⟩)] w fun e w' => e = .returned (.tuple #[]) ∧ ∃ j, k ≤ j ∧ j ≤ s.length ∧ s.drop j = skipB (s.drop k) ∧ Rq w' g s j ∧ Mod (fun b => b = g) w w' := by
  have hsz := sv_size s
  go_enter Try.func64, Try.ntmps64
  go_wp2_with fail
  go_loopw [] (fun wr => ∃ j : Nat, k ≤ j ∧ j ≤ s.length ∧ Hid (skipB (s.drop j) = skipB (s.drop k)) ∧ Rq wr g s j ∧ Mod (fun b => b = g) w wr) (fun wr => s.length - rdAt wr g)
  case atStart => exact ⟨k, Nat.le_refl _, hk, Lib.hid rfl, h, Mod.refl _ _⟩
  case round =>
    obtain ⟨j, hj, hjl, hs, hr, hm⟩ := hrel
    obtain ⟨c0, c1⟩ := hr.c
    have z1 : wr.frozen? ⟨g, 1, none⟩ = false := Blk.frozen hr 1
    have hat := hr.at_
    by_cases hlt : j < s.length
    · have hb1 : decide ((j : Int) < (s.length : Int)) = true := dtrue (by omega)
      obtain ⟨c, hdr, hg⟩ := get_at hlt
      have hi0 : (0 : Int) ≤ (j : Int) := by omega
      have hi1 : (j : Int) < (s.length : Int) := by omega
      have hq : ((c.toNat : Int) == 32) = decide (c = 32) := beq_lit c 32
      by_cases hc : c = 32
      · rw [dtrue hc] at hq
        have hsk : Hid (skipB (s.drop (j + 1)) = skipB (s.drop k)) := Lib.hid (by rw [← hs.out, hdr, skipB, if_pos hc])
        clear hdr hc hs
        go_wp2_with fail
        go_quiet (fail)
        obtain ⟨w3, hw3⟩ : ∃ x, x = wr.drewN nq := ⟨_, rfl⟩
        rw [← hw3]
        have x3 : Ext wr w3 := by rw [hw3]; exact (Mod.refl _ wr).drewN nq
        clear hw3 c0 c1 z1
        have hr3 := hr.mod x3 (fun h => h)
        obtain ⟨c0, c1⟩ := hr3.c
        have z1 : w3.frozen? ⟨g, 1, none⟩ = false := Blk.frozen hr3 1
        go_wp2_with fail
        have hr4 := hr3.step (j + 1) ((j : Int) + 1) (by omega)
        refine ⟨⟨j + 1, by omega, by omega, hsk, hr4, (hm.then_ x3 (fun _ _ h => h.elim)).setCell (p := ⟨g, 1, none⟩) (fun _ => rfl) _⟩, ?_⟩
        rw [hr4.at_, hat]; omega
      · rw [dfalse hc] at hq
        have hsk : Hid (s.drop j = skipB (s.drop k)) := Lib.hid (by rw [← hs.out, hdr, skipB, if_neg hc])
        clear hdr hc hs
        go_wp2_with fail
        go_quiet (fail)
        obtain ⟨w3, hw3⟩ : ∃ x, x = wr.drewN nq := ⟨_, rfl⟩
        rw [← hw3]
        have x3 : Ext wr w3 := by rw [hw3]; exact (Mod.refl _ wr).drewN nq
        clear hw3 c0 c1 z1
        go_wp2_with fail
        go_end0
        exact ⟨rfl, j, hj, hjl, hsk.out, hr.mod x3 (fun h => h), hm.then_ x3 (fun _ _ h => h.elim)⟩
    · have hb1 : decide ((j : Int) < (s.length : Int)) = false := dfalse (by omega)
      have hsk : Hid (s.drop j = skipB (s.drop k)) := Lib.hid (by rw [← hs.out, drop_end hlt]; rfl)
      go_wp2_with fail
      go_quiet (fail)
      obtain ⟨w3, hw3⟩ : ∃ x, x = wr.drewN nq := ⟨_, rfl⟩
      rw [← hw3]
      have x3 : Ext wr w3 := by rw [hw3]; exact (Mod.refl _ wr).drewN nq
      clear hw3 c0 c1 z1
      go_wp2_with fail
      go_end0
      exact ⟨rfl, j, hj, hjl, hsk.out, hr.mod x3 (fun h => h), hm.then_ x3 (fun _ _ h => h.elim)⟩
end Go.Proofs.Ytacmbomnjedbeaa
