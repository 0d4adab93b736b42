/- acl: how much names weigh; what is more than is looked at. -/
import Derived.Test.YtbdkdbfcbakgmaaAclC
namespace Go.Proofs.Ytbdkdbfcbakgmaa
open Go.RowKit
set_option maxRecDepth 100000

theorem tyN : SliceTy Try.prog 65 22 (.slice none 0 0) 24 := ⟨Try.underlying65, by kernel_rfl, rfl, by decide⟩

set_option maxHeartbeats 4000000 in
theorem heavy18_any {w : World} {S T : Nat → Prop} {v : Value} {vs : List Value} (h : Sl w S v vs) (hx : ∀ x ∈ vs, ∃ L, As w T x L ∧ Fits L) :
    Calls Try.prog 38 #[v] w fun e w' => ∃ q : Bool, e = .returned (.bool q) ∧ Ext w w' := by
  obtain ⟨A, c, rfl, h1, h2, h3, h4⟩ := h
  simp only [maxLen] at h2
  go_enter Try.func38, Try.ntmps38
  go_wp2_with fail
  go_loopw [3, 4] (fun n j wr => ∃ (k m : Nat), k ≤ vs.length ∧ j = .int .i64 k ∧ n = .int .i64 m ∧ m ≤ 1500 ∧ Ext w wr) (fun _ j _ => vs.length - (intOf j).toNat)
  case atStart => exact ⟨0, 0, by omega, rfl, rfl, by omega, Mod.refl _ _⟩
  case round =>
    obtain ⟨k, m, hk, rfl, rfl, hm, hxr⟩ := hrel
    by_cases hlt : k < vs.length
    · have hbl : decide ((k : Int) < (vs.length : Int)) = true := dtrue (by omega)
      obtain ⟨ad, hA, hS, c0⟩ := h4 k vs[k] (by simp [hlt])
      subst hA
      obtain ⟨L, hL, hf⟩ := hx vs[k] (List.getElem_mem hlt)
      generalize vs[k] = x at *
      obtain ⟨B, cb, rfl, r1, r2, r3, r4⟩ := hL.open_ avc_len
      have hl := hf.2
      have c0' : ∀ wx, Ext w wx → wx.cell? (ad.add k) = some (.slice B L.length cb) := fun wx hxx => (hxx.cell (lt_of_cell c0) (fun h => h)).trans c0
      have hi0 : (0 : Int) ≤ (k : Int) := by omega
      have hi1 : (k : Int) < (vs.length : Int) := by omega
      go_wp2_with fail
      go_loopw [3, 5] (fun n i wr => ∃ (k m : Nat), k ≤ L.length ∧ i = .int .i64 k ∧ n = .int .i64 m ∧ m ≤ 1500 ∧ Ext w wr) (fun _ i _ => L.length - (intOf i).toNat)
      case atStart => exact ⟨0, m, by omega, rfl, rfl, hm, hxr⟩
      case round =>
        clear hm hxr
        obtain ⟨i, n, hi, rfl, rfl, hn, hxr⟩ := hrel
        have cw := c0' _ hxr
        by_cases hlt2 : i < L.length
        · have hbl2 : decide ((i : Int) < (L.length : Int)) = true := dtrue (by omega)
          obtain ⟨ad2, hA, hS, d0, d1⟩ := As.at_ (r4.ext hxr) hlt2
          subst hA
          obtain ⟨k1, k2⟩ := hf.at_ hlt2
          generalize L[i] = y at *
          have hj0 : (0 : Int) ≤ (i : Int) := by omega
          have hj1 : (i : Int) < (L.length : Int) := by omega
          have hz1 := sv_size y.1
          have hz2 := sv_size y.2
          have hdw : ∀ m, Ext w (wr.drewN m) := fun m => hxr.drewN m
          by_cases hgt : 1500 < n + 1 + y.1.length + y.2.length
          · have hbg : decide ((1500 : Int) < (n : Int) + 1 + (y.1.length : Int) + (y.2.length : Int)) = true := dtrue (by omega)
            go_wp2_with fail
            go_quiet (fail)
            go_wp2_with fail
            go_ret
            exact ⟨true, rfl, hdw _⟩
          · have hbg : decide ((1500 : Int) < (n : Int) + 1 + (y.1.length : Int) + (y.2.length : Int)) = false := dfalse (by omega)
            go_wp2_with fail
            go_quiet (fail)
            go_wp2_with fail
            exact ⟨⟨i + 1, n + 1 + y.1.length + y.2.length, by omega, by go_num, by go_num, by omega, hdw _⟩, by simp [intOf] <;> omega⟩
        · have hbl2 : decide ((i : Int) < (L.length : Int)) = false := dfalse (by omega)
          go_wp2_with fail
          exact ⟨⟨k + 1, n, by omega, by go_num, rfl, hn, hxr⟩, by simp [intOf] <;> omega⟩
    · have hbl : decide ((k : Int) < (vs.length : Int)) = false := dfalse (by omega)
      go_wp2_with fail
      go_ret
      exact ⟨false, rfl, hxr⟩
end Go.Proofs.Ytbdkdbfcbakgmaa
