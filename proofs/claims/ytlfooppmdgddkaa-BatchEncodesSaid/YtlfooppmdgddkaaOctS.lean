/- octet: several numbers taken into places; the document's rows. -/
import Derived.Test.YtlfooppmdgddkaaOctR
namespace Go.Proofs.Ytlfooppmdgddkaa
open Go.RowKit
set_option maxRecDepth 100000

set_option maxHeartbeats 800000 in
theorem rrbytes_any {w : World} {b : Nat} {S : Nat → Prop} {v : Value} {st : Option (List UInt8)} (hrd : Rr w b S v st) (hl : (st.getD []).length ≤ 140737488355328) :
    Calls Try.prog 72 #[.pointer (some ⟨b, 0, none⟩)] w fun e w' => ∃ v' v1, e = .returned v1 ∧ Rr w' b S v' (takeB st).2 ∧ Own w' 5 v1 ((takeB st).1.map bv) ∧ Fresh w.heap.size v1 ∧ Mod (fun k => k = b) w w' := by
  have hle := takeN_len st
  go_enter Try.func72, Try.ntmps72
  go_wp2_with fail
  refine (rrnum_any hrd hl).mono ?_
  rintro e w1 ⟨v1, rfl, g1, g2⟩
  obtain ⟨h0, h1⟩ := g1.blk.c1
  cases hs : (takeN st).2 with
  | none =>
    have hb : takeB st = ([], none) := by
      unfold takeB
      rw [hs]; rfl
    replace hb := Lib.hid hb
    rw [hs] at g1 h1
    clear hs hle
    go_wp2_with fail
    go_ret
    rw [hb.out]
    exact ⟨v1, _, rfl, g1, Own.nil _ _, fresh_nil _ _ _, g2⟩
  | some l =>
    have hb : takeB st = takeRaw (takeN st).1 (some l) := by unfold takeB; rw [hs]
    replace hb := Lib.hid hb
    rw [hs] at g1 h1 hle
    clear hs
    go_wp2_with fail
    refine (rraw_any g1 _ (by omega)).mono ?_
    rintro e w2 ⟨v2, v3, rfl, k1, k2, k3, k4⟩
    go_wp2_with fail
    go_ret
    rw [hb.out]
    exact ⟨v2, v3, rfl, k1, k2, k3.mono g2.size, g2.trans k4 (fun _ _ h => h) (fun _ _ h => h)⟩
end Go.Proofs.Ytlfooppmdgddkaa
