/- dn: printValue. -/
import Derived.Test.YtbdkdbfcbakgmaaDnPF
import Derived.Test.YtbdkdbfcbakgmaaAppS
namespace Go.Proofs.Ytbdkdbfcbakgmaa
open Go.RowKit
set_option maxRecDepth 100000

def hexB (n : Nat) : UInt8 := [48, 49, 50, 51, 52, 53, 54, 55, 56, 57, 97, 98, 99, 100, 101, 102].getD n 0
/-- A byte of a value as it is printed. -/
def strokeB (b : UInt8) (f l : Bool) : List UInt8 :=
  if b.toNat < 32 ∨ 126 < b.toNat then [92, hexB (b.toNat / 16), hexB (b.toNat % 16)]
  else if b ∈ sepB ∨ (b = 35 ∧ f = true) ∨ (b = 32 ∧ (f = true ∨ l = true)) then [92, b] else [b]
def pvTo (s : List UInt8) (k : Nat) : List UInt8 := (List.range k).flatMap fun i => strokeB (s.getD i 0) (i == 0) (i + 1 == s.length)
/-- A value as it is printed. -/
def pvB (s : List UInt8) : List UInt8 := pvTo s s.length
theorem pvTo_snoc (s : List UInt8) {k : Nat} (h : k < s.length) : pvTo s (k + 1) = pvTo s k ++ strokeB s[k] (k == 0) (k + 1 == s.length) := by
  unfold pvTo
  rw [List.range_succ, List.flatMap_append, List.flatMap_cons, List.flatMap_nil, List.append_nil, getD_at s h]
theorem strokeB_len (b : UInt8) (f l : Bool) : (strokeB b f l).length ≤ 3 := by
  unfold strokeB
  split
  · simp
  · split <;> simp
theorem pvTo_len (s : List UInt8) (k : Nat) : (pvTo s k).length ≤ 3 * k := by
  unfold pvTo
  induction k with
  | zero => simp
  | succ k ih =>
    rw [List.range_succ, List.flatMap_append, List.length_append, List.flatMap_cons, List.flatMap_nil, List.append_nil]
    have := strokeB_len (s.getD k 0) (k == 0) (k + 1 == s.length)
    omega
def Plain (s : List UInt8) : Prop := ∀ b ∈ s, 32 ≤ b.toNat ∧ b.toNat ≤ 126

set_option maxHeartbeats 8000000 in
theorem printValue_any {w : World} {v : Value} {l s : List UInt8} (h : Own w 5 v (l.map bv)) (hn : l.length + 3 * s.length ≤ 100000000) (hp : Plain s) :
    Calls Try.prog 55 #[v, sv s] w fun e w' => ∃ v', e = .returned v' ∧ Own w' 5 v' ((l ++ pvB s).map bv) ∧ Next w.heap.size v v' ∧ Mod (own v) w w' := by
  have hsz := sv_size s
  go_enter Try.func55, Try.ntmps55
  go_wp2_with fail
  go_loopw [0, 11] (fun vo i wr => ∃ k : Nat, k ≤ s.length ∧ i = .int .i64 k ∧ Own wr 5 vo ((l ++ pvTo s k).map bv) ∧ Next w.heap.size v vo ∧ Mod (own v) w wr) (fun _ i _ => s.length - (intOf i).toNat)
  case atStart => exact ⟨0, Nat.zero_le _, rfl, by simpa [pvTo] using h, Next.refl _ _, Mod.refl _ _⟩
  case round =>
    obtain ⟨k, hk, rfl, p1, p2, p3⟩ := hrel
    by_cases hlt : k < s.length
    case neg =>
      have hbl : decide ((k : Int) < (s.length : Int)) = false := dfalse (by omega)
      obtain rfl : k = s.length := by omega
      go_wp2_with fail
      go_ret
      exact ⟨_, rfl, p1, p2, p3⟩
    have hbl : decide ((k : Int) < (s.length : Int)) = true := dtrue (by omega)
    obtain ⟨b, hbk⟩ : ∃ b, b = s[k] := ⟨_, rfl⟩
    have hg : ∀ h', (⟨s.toArray⟩ : ByteArray)[k]'h' = b := fun h' => (sv_get s k hlt h').trans hbk.symm
    have hpb := hp b (by rw [hbk]; exact List.getElem_mem _)
    have hsn := pvTo_snoc s hlt
    rw [← hbk] at hsn
    have hel := pvTo_len s k
    have hol : (l ++ pvTo s k).length + 2 ≤ 140737488355328 := by rw [List.length_append]; omega
    have heq : l ++ pvTo s (k + 1) = (l ++ pvTo s k) ++ strokeB b (k == 0) (k + 1 == s.length) := by rw [hsn, List.append_assoc]
    clear hsn hel hbk
    generalize l ++ pvTo s k = o at *
    have hb1 : decide ((b.toNat : Int) < 32) = false := dfalse (by omega)
    have hb2 : decide ((126 : Int) < (b.toNat : Int)) = false := dfalse (by omega)
    have hol1 := Lib.hid (show o.length + 1 ≤ 140737488355328 by omega)
    replace hol := Lib.hid hol
    have hx92 := Lib.hid (show (92 : Int) = ((92 : UInt8).toNat : Int) from rfl)
    have hq1 : ((k : Int) == 0) = (k == 0) := by rw [Bool.eq_iff_iff, beq_iff_eq, beq_iff_eq]; omega
    have hq2 : ((k : Int) == (s.length : Int) - 1) = (k + 1 == s.length) := by rw [Bool.eq_iff_iff, beq_iff_eq, beq_iff_eq]; omega
    have hq3 : ((b.toNat : Int) == 35) = decide (b = 35) := by
      rw [Bool.eq_iff_iff, beq_iff_eq, decide_eq_true_eq, ← UInt8.toNat_inj, show (35 : UInt8).toNat = 35 from rfl]; omega
    have hq4 : ((b.toNat : Int) == 32) = decide (b = 32) := by
      rw [Bool.eq_iff_iff, beq_iff_eq, decide_eq_true_eq, ← UInt8.toNat_inj, show (32 : UInt8).toNat = 32 from rfl]; omega
    have hix := idx_mem sepB b
    have hno : ¬ (b.toNat < 32 ∨ 126 < b.toNat) := by omega
    unfold strokeB at heq
    rw [if_neg hno] at heq
    clear hno hpb
    generalize (k == 0) = f at *
    generalize (k + 1 == s.length) = g at *
    obtain ⟨A, cc, rfl⟩ := p1.shape
    rw [List.length_map] at p1 p2
    have hi0 : (0 : Int) ≤ (k : Int) := by omega
    have hi1 : (k : Int) < (s.length : Int) := by omega
    by_cases hm : b ∈ sepB
    · rw [decide_eq_true hm] at hix
      rw [if_pos (.inl hm)] at heq
      replace heq := Lib.hid heq
      clear hq3 hq4 hm
      go_wp2_with fail
      refine (sidx_any sepB b).mono ?_
      rintro e w6 ⟨rfl, hw6⟩
      rw [hw6]
      clear hw6
      go_wp2_with ((with_reducible show wpList _ _ _ (⟨some 64, _, _, _, _, _⟩ :: _) _ _); refine wp_app2 tyB p1 hx92.out rfl hol.out rfl (.tmp 61) (.tmp 63) rfl rfl rfl ?_; intro v2 w2 k1 k2 k3)
      refine ⟨⟨k + 1, by omega, by go_num, by rw [heq.out]; exact k1, p2.trans k3 p3.size, p3.then_ k2 (fun b hb h => p2.sub hb h)⟩, by simp [intOf] <;> omega⟩
    rw [decide_eq_false hm] at hix
    by_cases h35 : b = 35
    · rw [dtrue h35] at hq3
      have hq4' : ((b.toNat : Int) == 32) = false := by rw [h35]; rfl
      cases f
      · rw [if_neg (by rintro (h | ⟨_, h⟩ | ⟨h, _⟩); exact hm h; cases h; rw [h35] at h; cases h)] at heq
        replace heq := Lib.hid heq
        clear hq4 hm h35
        go_wp2_with fail
        refine (sidx_any sepB b).mono ?_
        rintro e w6 ⟨rfl, hw6⟩
        rw [hw6]
        clear hw6
        go_wp2_with ((with_reducible show wpList _ _ _ (⟨some 27, _, _, _, _, _⟩ :: _) _ _); refine wp_app1 tyB p1 rfl hol1.out rfl (.tmp 24) (.tmp 26) rfl rfl rfl ?_; intro v2 w2 k1 k2 k3)
        refine ⟨⟨k + 1, by omega, by go_num, by rw [heq.out]; exact k1, p2.trans k3 p3.size, p3.then_ k2 (fun b hb h => p2.sub hb h)⟩, by simp [intOf] <;> omega⟩
      · rw [if_pos (.inr (.inl ⟨h35, rfl⟩))] at heq
        replace heq := Lib.hid heq
        clear hq4 hm h35
        go_wp2_with fail
        refine (sidx_any sepB b).mono ?_
        rintro e w6 ⟨rfl, hw6⟩
        rw [hw6]
        clear hw6
        go_wp2_with ((with_reducible show wpList _ _ _ (⟨some 64, _, _, _, _, _⟩ :: _) _ _); refine wp_app2 tyB p1 hx92.out rfl hol.out rfl (.tmp 61) (.tmp 63) rfl rfl rfl ?_; intro v2 w2 k1 k2 k3)
        refine ⟨⟨k + 1, by omega, by go_num, by rw [heq.out]; exact k1, p2.trans k3 p3.size, p3.then_ k2 (fun b hb h => p2.sub hb h)⟩, by simp [intOf] <;> omega⟩
    rw [dfalse h35] at hq3
    by_cases h32 : b = 32
    · rw [dtrue h32] at hq4
      cases f
      · cases g
        · rw [if_neg (by rintro (h | ⟨h, _⟩ | ⟨_, h | h⟩); exact hm h; exact h35 h; cases h; cases h)] at heq
          replace heq := Lib.hid heq
          clear hm h35 h32
          go_wp2_with fail
          refine (sidx_any sepB b).mono ?_
          rintro e w6 ⟨rfl, hw6⟩
          rw [hw6]
          clear hw6
          go_wp2_with ((with_reducible show wpList _ _ _ (⟨some 27, _, _, _, _, _⟩ :: _) _ _); refine wp_app1 tyB p1 rfl hol1.out rfl (.tmp 24) (.tmp 26) rfl rfl rfl ?_; intro v2 w2 k1 k2 k3)
          refine ⟨⟨k + 1, by omega, by go_num, by rw [heq.out]; exact k1, p2.trans k3 p3.size, p3.then_ k2 (fun b hb h => p2.sub hb h)⟩, by simp [intOf] <;> omega⟩
        · rw [if_pos (.inr (.inr ⟨h32, .inr rfl⟩))] at heq
          replace heq := Lib.hid heq
          clear hm h35 h32
          go_wp2_with fail
          refine (sidx_any sepB b).mono ?_
          rintro e w6 ⟨rfl, hw6⟩
          rw [hw6]
          clear hw6
          go_wp2_with ((with_reducible show wpList _ _ _ (⟨some 64, _, _, _, _, _⟩ :: _) _ _); refine wp_app2 tyB p1 hx92.out rfl hol.out rfl (.tmp 61) (.tmp 63) rfl rfl rfl ?_; intro v2 w2 k1 k2 k3)
          refine ⟨⟨k + 1, by omega, by go_num, by rw [heq.out]; exact k1, p2.trans k3 p3.size, p3.then_ k2 (fun b hb h => p2.sub hb h)⟩, by simp [intOf] <;> omega⟩
      · rw [if_pos (.inr (.inr ⟨h32, .inl rfl⟩))] at heq
        replace heq := Lib.hid heq
        clear hm h35 h32
        go_wp2_with fail
        refine (sidx_any sepB b).mono ?_
        rintro e w6 ⟨rfl, hw6⟩
        rw [hw6]
        clear hw6
        go_wp2_with ((with_reducible show wpList _ _ _ (⟨some 64, _, _, _, _, _⟩ :: _) _ _); refine wp_app2 tyB p1 hx92.out rfl hol.out rfl (.tmp 61) (.tmp 63) rfl rfl rfl ?_; intro v2 w2 k1 k2 k3)
        refine ⟨⟨k + 1, by omega, by go_num, by rw [heq.out]; exact k1, p2.trans k3 p3.size, p3.then_ k2 (fun b hb h => p2.sub hb h)⟩, by simp [intOf] <;> omega⟩
    rw [dfalse h32] at hq4
    rw [if_neg (by rintro (h | ⟨h, _⟩ | ⟨h, _⟩); exact hm h; exact h35 h; exact h32 h)] at heq
    replace heq := Lib.hid heq
    clear hm h35 h32
    go_wp2_with fail
    refine (sidx_any sepB b).mono ?_
    rintro e w6 ⟨rfl, hw6⟩
    rw [hw6]
    clear hw6
    go_wp2_with ((with_reducible show wpList _ _ _ (⟨some 27, _, _, _, _, _⟩ :: _) _ _); refine wp_app1 tyB p1 rfl hol1.out rfl (.tmp 24) (.tmp 26) rfl rfl rfl ?_; intro v2 w2 k1 k2 k3)
    refine ⟨⟨k + 1, by omega, by go_num, by rw [heq.out]; exact k1, p2.trans k3 p3.size, p3.then_ k2 (fun b hb h => p2.sub hb h)⟩, by simp [intOf] <;> omega⟩
end Go.Proofs.Ytbdkdbfcbakgmaa
