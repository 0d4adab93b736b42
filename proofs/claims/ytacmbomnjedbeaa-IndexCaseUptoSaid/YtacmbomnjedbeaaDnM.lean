/- dn: Same, Under, Is. -/
import Derived.Test.YtacmbomnjedbeaaDnG
namespace Go.Proofs.Ytacmbomnjedbeaa
open Go.RowKit
set_option maxRecDepth 100000

theorem normA_eq (x y : Av) : sameN [x] [y] ↔ normA x = normA y := by unfold sameN norm; simp
theorem same_step {L M : List Av} : sameN L M ↔ L.length = M.length ∧ ∀ (j : Nat) (hj : j < L.length) (hj' : j < M.length), normA L[j] = normA M[j] := by
  unfold sameN norm
  constructor
  · intro h
    have hl : L.length = M.length := by have := congrArg List.length h; simpa using this
    refine ⟨hl, fun j hj hj' => ?_⟩
    have := congrArg (fun l => l[j]?) h
    simpa [hj, hj'] using this
  · rintro ⟨h1, h2⟩
    exact List.ext_getElem (by simpa using h1) (fun j hj hj' => by simpa using h2 j (by simpa using hj) (by simpa using hj'))

end Go.Proofs.Ytacmbomnjedbeaa
namespace Go.Proofs.Ytacmbomnjedbeaa
open Go.RowKit
set_option maxRecDepth 100000

set_option maxHeartbeats 2000000 in
theorem is_any {w : World} {S : Nat → Prop} {v : Value} {L : List Av} (h : As w S v L) (hf : Fits L) :
    Calls Try.prog 84 #[v] w fun e w' => e = .returned (.bool (decide (isName L))) ∧ Ext w w' := by
  have hl := hf.2
  obtain ⟨A, c, rfl, h1, h2, h3, h4⟩ := h.open_ avc_len
  by_cases g1 : 12 < L.length
  · have hb : decide ((12 : Int) < (L.length : Int)) = true := dtrue (by omega)
    go_enter Try.func84, Try.ntmps84
    go_wp2_with fail
    go_ret
    exact ⟨by rw [decide_eq_false (fun h : isName L => by have := h.1; omega)]; rfl, Mod.refl _ _⟩
  have hb1 : decide ((12 : Int) < (L.length : Int)) = false := dfalse (by omega)
  go_enter Try.func84, Try.ntmps84
  go_wp2_with fail
  go_loopw [10] (fun i wr => ∃ k : Nat, k ≤ L.length ∧ i = .int .i64 k ∧ Ext w wr ∧ Hid (∀ (j : Nat) (hj : j < L.length), j < k → okA L[j])) (fun i _ => L.length - (intOf i).toNat)
  case atStart => exact ⟨0, by omega, rfl, Mod.refl _ _, Lib.hid fun j _ h => by omega⟩
  case round =>
    obtain ⟨k, hk, rfl, hxr, hall⟩ := hrel
    by_cases hlt : k < L.length
    · have hbl : decide ((k : Int) < (L.length : Int)) = true := dtrue (by omega)
      obtain ⟨ad, hA, hS, c0, c1⟩ := As.at_ (h4.ext hxr) hlt
      subst hA
      obtain ⟨k1, k2⟩ := hf.at_ hlt
      have next : okA L[k] → Hid (∀ (j : Nat) (hj : j < L.length), j < k + 1 → okA L[j]) := fun h4 => Lib.hid fun j hj hjk => by
        by_cases hj2 : j < k
        · exact hall.out j hj hj2
        · obtain rfl : j = k := by omega
          exact h4
      have nope : ¬ okA L[k] → ¬ isName L := fun h4 h => h4 (h.2 _ (List.getElem_mem _))
      have hi0 : (0 : Int) ≤ (k : Int) := by omega
      have hi1 : (k : Int) < (L.length : Int) := by omega
      generalize L[k] = x at *
      have hsz := sv_size x.2
      have xw : Ext w (wr.alloc (.cells #[sv x.1, sv x.2] 46)) := hxr.alloc _
      go_wp2_with fail
      refine (type_any x.1 (by omega)).mono ?_
      rintro e w1 ⟨rfl, hw1⟩
      subst hw1
      by_cases h5 : isTyp x.1
      · rw [decide_eq_true h5]
        by_cases h6 : x.2.length < 1
        · have hb6 : decide ((x.2.length : Int) < 1) = true := dtrue (by omega)
          go_wp2_with fail
          go_ret
          exact ⟨by rw [decide_eq_false (nope (fun h => by have := h.2.1; omega))]; rfl, xw⟩
        have hb6 : decide ((x.2.length : Int) < 1) = false := dfalse (by omega)
        by_cases h7 : 64 < x.2.length
        · have hb7 : decide ((64 : Int) < (x.2.length : Int)) = true := dtrue (by omega)
          go_wp2_with fail
          go_ret
          exact ⟨by rw [decide_eq_false (nope (fun h => by have := h.2.2; omega))]; rfl, xw⟩
        · have hb7 : decide ((64 : Int) < (x.2.length : Int)) = false := dfalse (by omega)
          go_wp2_with fail
          exact ⟨⟨k + 1, by omega, by go_num, xw, next ⟨h5, by omega, by omega⟩⟩, by simp [intOf] <;> omega⟩
      · rw [decide_eq_false h5]
        go_wp2_with fail
        go_ret
        exact ⟨by rw [decide_eq_false (nope (fun h => h5 h.1))]; rfl, xw⟩
    · have hbl : decide ((k : Int) < (L.length : Int)) = false := dfalse (by omega)
      have yes : isName L := ⟨by omega, fun x hx => by
        obtain ⟨j, hj, rfl⟩ := List.mem_iff_getElem.1 hx
        exact hall.out j hj (by omega)⟩
      go_wp2_with fail
      go_ret
      exact ⟨by rw [decide_eq_true yes]; rfl, hxr⟩
end Go.Proofs.Ytacmbomnjedbeaa
