/- Two records of texts: equal or not. -/
import Derived.Test.YtekocbphdckmkaaDnE
import Derived.Laws.StructEq
namespace Go.Proofs.Ytekocbphdckmkaa
open Go.RowKit
set_option maxRecDepth 100000

end Go.Proofs.Ytekocbphdckmkaa
namespace Go.Proofs.Ytekocbphdckmkaa
open Go.RowKit
set_option maxRecDepth 100000

theorem isTyp_tail {s : List UInt8} (h1 : ¬ s.length < 1) (h2 : ¬ 32 < s.length) (h3 : letN (s.getD 0 0).toNat) (h : ∀ (j : Nat) (hj : j < s.length), 1 ≤ j → typN s[j].toNat) : isTyp s := by
  refine ⟨by omega, by omega, h3, fun x hx => ?_⟩
  obtain ⟨j, hj, rfl⟩ := List.mem_iff_getElem.1 hx
  by_cases h0 : j = 0
  · subst h0
    rw [getD_at s hj] at h3
    exact .inl h3
  · exact h j hj (by omega)

set_option maxHeartbeats 2000000 in
theorem rtype_any {w : World} (s : List UInt8) (hl : s.length ≤ 9223372036854775807) :
    Calls Try.prog 41 #[sv s] w fun e w' => e = .returned (.bool (decide (isTyp s))) ∧ w' = w := by
  have hsz := sv_size s
  by_cases h1 : s.length < 1
  · have hb : decide ((s.length : Int) < 1) = true := dtrue (by omega)
    go_enter Try.func41, Try.ntmps41
    go_wp2_with fail
    go_ret
    exact ret_no (fun h => by have := h.1; omega) rfl
  have hb1 : decide ((s.length : Int) < 1) = false := dfalse (by omega)
  by_cases h2 : 32 < s.length
  · have hb : decide ((32 : Int) < (s.length : Int)) = true := dtrue (by omega)
    go_enter Try.func41, Try.ntmps41
    go_wp2_with fail
    go_ret
    exact ret_no (fun h => by have := h.2.1; omega) rfl
  have hb2 : decide ((32 : Int) < (s.length : Int)) = false := dfalse (by omega)
  have h0 : 0 < s.length := by omega
  obtain ⟨b, hbk⟩ : ∃ b, b = s[0] := ⟨_, rfl⟩
  have hg : ∀ h', (⟨s.toArray⟩ : ByteArray)[0]'h' = b := fun h' => (sv_get s 0 h0 h').trans hbk.symm
  have hgd : s.getD 0 0 = b := by rw [getD_at s h0, hbk]
  replace hbk := Lib.hid hbk
  by_cases h3 : letN b.toNat
  · go_enter Try.func41, Try.ntmps41
    go_wp2_with fail
    refine (rletter_any b.toNat).mono ?_
    rintro e w1 ⟨rfl, rfl⟩
    rw [decide_eq_true h3]
    go_wp2_with fail
    go_loop [3] (fun i => ∃ k : Nat, 1 ≤ k ∧ k ≤ s.length ∧ i = .int .i64 k ∧ ∀ (j : Nat) (hj : j < s.length), 1 ≤ j → j < k → typN s[j].toNat) (fun i => s.length - (intOf i).toNat)
    case atStart => exact ⟨1, by omega, by omega, rfl, fun j _ _ h => by omega⟩
    case round =>
      obtain ⟨k, hk1, hk, rfl, hall⟩ := hrel
      replace hall := Lib.hid hall
      by_cases hlt : k < s.length
      · have hbl : decide ((k : Int) < (s.length : Int)) = true := dtrue (by omega)
        obtain ⟨c, hck⟩ : ∃ c, c = s[k] := ⟨_, rfl⟩
        have hg : ∀ h', (⟨s.toArray⟩ : ByteArray)[k]'h' = c := fun h' => (sv_get s k hlt h').trans hck.symm
        replace hck := Lib.hid hck
        have hc8 := c.toNat_lt
        go_wp2_with fail
        refine (rletter_any c.toNat).mono ?_
        rintro e w1 ⟨rfl, rfl⟩
        have next : typN c.toNat → ∀ (j : Nat) (hj : j < s.length), 1 ≤ j → j < k + 1 → typN s[j].toNat := fun h4 j hj hj1 hjk => by
          by_cases hj2 : j < k
          · exact hall.out j hj hj1 hj2
          · obtain rfl : j = k := by omega
            rw [← hck.out]; exact h4
        have nope : ¬ typN c.toNat → ¬ isTyp s := fun h4 h => h4 (by rw [hck.out]; exact h.2.2.2 _ (List.getElem_mem _))
        by_cases h5 : letN c.toNat
        · rw [decide_eq_true h5]
          go_wp2_with fail
          exact ⟨⟨k + 1, by omega, by omega, by go_num, next (.inl h5)⟩, by simp [intOf] <;> omega⟩
        rw [decide_eq_false h5]
        by_cases h6 : c.toNat = 45
        · have hb : ((c.toNat : Int) != 45) = false := by rw [h6]; rfl
          have h7 : typN c.toNat := .inr (.inr h6)
          clear h5 h6
          go_wp2_with fail
          exact ⟨⟨k + 1, by omega, by omega, by go_num, next h7⟩, by simp [intOf] <;> omega⟩
        have hb : ((c.toNat : Int) != 45) = true := by rw [bne_iff_ne]; omega
        by_cases h7 : c.toNat < 48
        · have hb7 : decide ((c.toNat : Int) < 48) = true := dtrue (by omega)
          go_wp2_with fail
          go_ret
          exact ret_no (nope (fun h => h.elim h5 (fun h => by omega))) rfl
        have hb7 : decide ((c.toNat : Int) < 48) = false := dfalse (by omega)
        by_cases h8 : 57 < c.toNat
        · have hb8 : decide ((57 : Int) < (c.toNat : Int)) = true := dtrue (by omega)
          go_wp2_with fail
          go_ret
          exact ret_no (nope (fun h => h.elim h5 (fun h => by omega))) rfl
        · have hb8 : decide ((57 : Int) < (c.toNat : Int)) = false := dfalse (by omega)
          go_wp2_with fail
          exact ⟨⟨k + 1, by omega, by omega, by go_num, next (.inr (.inl (by omega)))⟩, by simp [intOf] <;> omega⟩
      · have hbl : decide ((k : Int) < (s.length : Int)) = false := dfalse (by omega)
        go_wp2_with fail
        go_ret
        exact ret_yes (isTyp_tail h1 h2 (by rw [hgd]; exact h3) (fun j hj hj1 => hall.out j hj hj1 (by omega))) rfl
  · go_enter Try.func41, Try.ntmps41
    go_wp2_with fail
    refine (rletter_any b.toNat).mono ?_
    rintro e w1 ⟨rfl, rfl⟩
    rw [decide_eq_false h3]
    go_wp2_with fail
    go_ret
    exact ret_no (fun h => h3 (by rw [← hgd]; exact h.2.2.1)) rfl

/-- May a part be? -/
def okA (a : Av) : Prop := isTyp a.1 ∧ 1 ≤ a.2.length ∧ a.2.length ≤ 64
instance (a : Av) : Decidable (okA a) := inferInstanceAs (Decidable (_ ∧ _))
/-- May a name be? -/
def isName (L : List Av) : Prop := L.length ≤ 12 ∧ ∀ a ∈ L, okA a
instance (L : List Av) : Decidable (isName L) := inferInstanceAs (Decidable (_ ∧ _))

end Go.Proofs.Ytekocbphdckmkaa
namespace Go.Proofs.Ytekocbphdckmkaa
open Go.RowKit
set_option maxRecDepth 100000

def sameN (L M : List Av) : Prop := norm L = norm M
instance (L M : List Av) : Decidable (sameN L M) := inferInstanceAs (Decidable (_ = _))
def underN (L M : List Av) : Prop := M.length ≤ L.length ∧ sameN (L.drop (L.length - M.length)) M
instance (L M : List Av) : Decidable (underN L M) := inferInstanceAs (Decidable (_ ∧ _))

end Go.Proofs.Ytekocbphdckmkaa
