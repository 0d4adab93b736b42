/- dn: the document's Print and Up; the law Prints. -/
import Derived.Test.YtacmbomnjedbeaaDnPO
import Derived.Deep.RegionHeld3
namespace Go.Proofs.Ytacmbomnjedbeaa
open Go.RowKit
set_option maxRecDepth 100000

theorem in_step {b : UInt8} {l : List UInt8} {k : Nat} (h : k < l.length) (h1 : b ∉ l.take k) (h2 : l[k] ≠ b) : b ∉ l.take (k + 1) := by
  rw [List.take_succ_eq_append_getElem h, List.mem_append, List.mem_singleton]
  rintro (h | rfl)
  · exact h1 h
  · exact h2 rfl
set_option maxHeartbeats 4000000 in
theorem in_any {w : World} (b : UInt8) (l : List UInt8) (hl : l.length ≤ 140737488351232) :
    Calls Try.prog 69 #[bv b, sv l] w fun e w' => e = .returned (.bool (decide (b ∈ l))) ∧ w' = w := by
  have hsz := sv_size l
  go_enter Try.func69, Try.ntmps69
  go_wp2_with fail
  go_loopw [5] (fun i wr => ∃ k : Nat, k ≤ l.length ∧ i = .int .i64 k ∧ Hid (b ∉ l.take k) ∧ wr = w) (fun i _ => l.length - (intOf i).toNat)
  case atStart => exact ⟨0, Nat.zero_le _, rfl, Lib.hid (by simp), rfl⟩
  case round =>
    obtain ⟨k, hk, rfl, hm, rfl⟩ := hrel
    by_cases hlt : k < l.length
    case neg =>
      have hbl : decide ((k : Int) < (l.length : Int)) = false := dfalse (by omega)
      have hno : b ∉ l := by have := hm.out; rwa [List.take_of_length_le (by omega)] at this
      replace hno := Lib.hid hno
      go_wp2_with fail
      go_ret
      exact ⟨by rw [dfalse hno.out]; rfl, rfl⟩
    have hbl : decide ((k : Int) < (l.length : Int)) = true := dtrue (by omega)
    obtain ⟨c, hck⟩ : ∃ c, c = l[k] := ⟨_, rfl⟩
    have hg : ∀ h', (⟨l.toArray⟩ : ByteArray)[k]'h' = c := fun h' => (sv_get l k hlt h').trans hck.symm
    have hi0 : (0 : Int) ≤ (k : Int) := by omega
    have hi1 : (k : Int) < (l.length : Int) := by omega
    have hst : c ≠ b → b ∉ l.take (k + 1) := by rw [hck]; exact in_step hlt hm.out
    have hin : c = b → b ∈ l := fun h => by rw [← h, hck]; exact List.getElem_mem hlt
    clear hck
    by_cases hc : c = b
    · have hq : ((c.toNat : Int) == (b.toNat : Int)) = true := by rw [hc]; exact beq_self_eq_true _
      have hin2 := Lib.hid (hin hc)
      clear hst hin hc
      go_wp2_with fail
      go_ret
      exact ⟨by rw [dtrue hin2.out]; rfl, rfl⟩
    · have hq : ((c.toNat : Int) == (b.toNat : Int)) = false := by rw [beq_eq_false_iff_ne]; intro h; exact hc (UInt8.toNat_inj.1 (by omega))
      have hst2 := Lib.hid (hst hc)
      clear hst hin hc
      go_wp2_with fail
      exact ⟨⟨k + 1, by omega, by go_num, hst2, trivial⟩, by simp [intOf] <;> omega⟩

theorem hexB_lo : ∀ n, n < 10 → (hexB n).toNat = 48 + n := by decide
theorem hexB_hi : ∀ n, n < 16 → ¬ n < 10 → (hexB n).toNat = 97 + n - 10 := by decide
set_option maxHeartbeats 4000000 in
theorem hex_any {w : World} (n : Nat) (hn : n < 16) :
    Calls Try.prog 68 #[.int .u8 n] w fun e w' => e = .returned (bv (hexB n)) ∧ w' = w := by
  by_cases h : n < 10
  · have hb : decide ((n : Int) < 10) = true := dtrue (by omega)
    have hx := Lib.hid (hexB_lo n h)
    go_enter Try.func68, Try.ntmps68
    go_wp2_with fail
    go_ret
    exact ⟨by show Ending.returned _ = Ending.returned (.int .u8 ((hexB n).toNat : Int)); rw [hx.out]; congr 2, rfl⟩
  · have hb : decide ((n : Int) < 10) = false := dfalse (by omega)
    have hx := Lib.hid (hexB_hi n hn h)
    go_enter Try.func68, Try.ntmps68
    go_wp2_with fail
    go_ret
    exact ⟨by show Ending.returned _ = Ending.returned (.int .u8 ((hexB n).toNat : Int)); rw [hx.out, show ((97 + n - 10 : Nat) : Int) = 97 + (n : Int) - 10 by omega]; rfl, rfl⟩

theorem stroke_if {b : UInt8} (hb : ¬ (b.toNat < 32 ∨ 126 < b.toNat)) (f g m h q : Bool) (hm : decide (b ∈ sepB) = m) (hh : decide (b ∈ ([35, 32] : List UInt8)) = h) (hq : decide (b = 32) = q) :
    strokeB b f g = if (m || (f && h) || (g && q)) = true then [92, b] else [b] := by
  unfold strokeB
  rw [if_neg hb]
  subst hm hh hq
  congr 1
  simp only [Bool.or_eq_true, Bool.and_eq_true, decide_eq_true_eq, List.mem_cons, List.not_mem_nil, or_false, eq_iff_iff]
  constructor
  · rintro (h | ⟨h, k⟩ | ⟨h, k | k⟩)
    · exact .inl (.inl h)
    · exact .inl (.inr ⟨k, .inl h⟩)
    · exact .inl (.inr ⟨k, .inr h⟩)
    · exact .inr ⟨k, h⟩
  · rintro ((h | ⟨k, h | h⟩) | ⟨k, h⟩)
    · exact .inl h
    · exact .inr (.inl ⟨h, k⟩)
    · exact .inr (.inr ⟨h, .inl k⟩)
    · exact .inr (.inr ⟨h, .inr k⟩)

set_option maxHeartbeats 8000000 in
theorem told_any {w : World} (s : List UInt8) (hn : 3 * s.length ≤ 100000000) :
    Calls Try.prog 51 #[sv s] w fun e w' => e = .returned (sv (pvB s)) ∧ Ext w w' := by
  have hsz := sv_size s
  go_enter Try.func51, Try.ntmps51
  go_wp2_with fail
  go_loopw [3, 4] (fun vo i wr => ∃ k : Nat, k ≤ s.length ∧ i = .int .i64 k ∧ Own wr 5 vo ((pvTo s k).map bv) ∧ Fresh w.heap.size vo ∧ Ext w wr) (fun _ i _ => s.length - (intOf i).toNat)
  case atStart => exact ⟨0, Nat.zero_le _, rfl, Own.nil _ _, fresh_nil _ _ _, Mod.refl _ _⟩
  case round =>
    obtain ⟨k, hk, rfl, p1, p2, p3⟩ := hrel
    by_cases hlt : k < s.length
    case neg =>
      have hbl : decide ((k : Int) < (s.length : Int)) = false := dfalse (by omega)
      obtain rfl : k = s.length := by omega
      have hcv := run_conv (P := Try.prog) Try.underlying65 Try.underlying5 Try.underlying9 p1.sl
      go_wp2_with fail
      go_ret
      exact ⟨rfl, p3⟩
    have hbl : decide ((k : Int) < (s.length : Int)) = true := dtrue (by omega)
    obtain ⟨b, hbk⟩ : ∃ b, b = s[k] := ⟨_, rfl⟩
    have hg : ∀ h', (⟨s.toArray⟩ : ByteArray)[k]'h' = b := fun h' => (sv_get s k hlt h').trans hbk.symm
    have heq := pvTo_snoc s hlt
    rw [← hbk] at heq
    have hel := pvTo_len s k
    have hol : (pvTo s k).length + 3 ≤ 140737488355328 := by omega
    clear hel hbk
    generalize pvTo s k = o at *
    have hi0 : (0 : Int) ≤ (k : Int) := by omega
    have hi1 : (k : Int) < (s.length : Int) := by omega
    have hb256 := b.toNat_lt
    obtain ⟨A, cc, rfl⟩ := p1.shape
    rw [List.length_map] at p1 p2
    have hpre := p3.size
    by_cases hw1 : b.toNat < 32 ∨ 126 < b.toNat
    · unfold strokeB at heq
      rw [if_pos hw1] at heq
      replace heq := Lib.hid heq
      have hh1 : ∃ q, decide ((b.toNat : Int) < 32) = q ∧ (q = false → decide ((126 : Int) < (b.toNat : Int)) = true) := ⟨_, rfl, fun hq => dtrue (by have := of_decide_eq_false hq; omega)⟩
      obtain ⟨q, hq1, hq2⟩ := hh1
      have e0 : (0 : Int) ≤ (b.toNat : Int) / 16 := by omega
      have e1 : (b.toNat : Int) / 16 < 16 := by omega
      have eb0 : (0 : Int) ≤ (b.toNat : Int) := by omega
      have eb1 : (b.toNat : Int) < 256 := by omega
      have e4 := and15 b
      have h1 := fun wx => hex_any (w := wx) (b.toNat / 16) (by omega)
      have h2 := fun wx => hex_any (w := wx) (b.toNat % 16) (by omega)
      rw [show ((b.toNat / 16 : Nat) : Int) = (b.toNat : Int) / 16 by omega] at h1
      rw [show ((b.toNat % 16 : Nat) : Int) = (b.toNat : Int) % 16 by omega] at h2
      have heq2 : Hid ((pvTo s (k + 1)).map bv = o.map bv ++ [(.int .u8 92 : Value), bv (hexB (b.toNat / 16)), bv (hexB (b.toNat % 16))]) := Lib.hid (by rw [heq.out, List.map_append]; rfl)
      generalize hexB (b.toNat / 16) = y1 at *
      generalize hexB (b.toNat % 16) = y2 at *
      have pd := p1.alloc (.cells #[.int .u8 92, bv y1, bv y2] 5)
      have pl := Sl.lit wr 5 [(.int .u8 92 : Value), bv y1, bv y2] (by simp [maxLen])
      have pn := Lib.hid (show ((o.map bv).length + [(.int .u8 92 : Value), bv y1, bv y2].length) * 1 ≤ 140737488355328 by simp only [List.length_map, List.length_cons, List.length_nil]; omega)
      have hone : ∀ u ∈ [(.int .u8 92 : Value), bv y1, bv y2], u.oneCell' = true := by
        intro u hu
        simp only [List.mem_cons, List.not_mem_nil, or_false] at hu
        rcases hu with rfl | rfl | rfl <;> rfl
      cases q
      all_goals (try replace hq2 := hq2 rfl)
      all_goals go_wp2_with fail
      all_goals refine (h1 _).mono ?_
      all_goals rintro e wa ⟨rfl, hwa⟩
      all_goals rw [hwa]
      all_goals clear hwa
      all_goals go_wp2_with fail
      all_goals refine (h2 _).mono ?_
      all_goals rintro e wa ⟨rfl, hwa⟩
      all_goals rw [hwa]
      all_goals clear hwa
      all_goals go_wp2_with ((with_reducible show wpList _ _ _ (⟨some 34, _, _, _, _, _⟩ :: _) _ _); refine wp_app tyB pd pl hone rfl (.tmp 26) (.tmp 33) rfl rfl rfl pn.out ?_; intro v2 w2 k1 k2 k3)
      all_goals exact ⟨⟨k + 1, by omega, by go_num, by rw [heq2.out]; exact k1, k3.fresh p2 (by simp; omega), ext_app p3 p2 k2⟩, by simp [intOf] <;> omega⟩
    have hpb : 32 ≤ b.toNat ∧ b.toNat ≤ 126 := by omega
    have hb1 : decide ((b.toNat : Int) < 32) = false := dfalse (by omega)
    have hb2 : decide ((126 : Int) < (b.toNat : Int)) = false := dfalse (by omega)
    have hol1 := Lib.hid (show o.length + 1 ≤ 140737488355328 by omega)
    replace hol := Lib.hid (show o.length + 2 ≤ 140737488355328 by omega)
    have hx92 := Lib.hid (show (92 : Int) = ((92 : UInt8).toNat : Int) from rfl)
    have hq1 : ((k : Int) == 0) = (k == 0) := by rw [Bool.eq_iff_iff, beq_iff_eq, beq_iff_eq]; omega
    have hq2 : ((k : Int) == (s.length : Int) - 1) = (k + 1 == s.length) := by rw [Bool.eq_iff_iff, beq_iff_eq, beq_iff_eq]; omega
    have hq4 : ((b.toNat : Int) == 32) = decide (b = 32) := by
      rw [Bool.eq_iff_iff, beq_iff_eq, decide_eq_true_eq, ← UInt8.toNat_inj, show (32 : UInt8).toNat = 32 from rfl]; omega
    have hi1c := fun wx => in_any (w := wx) b [44, 43, 34, 92, 60, 62, 59] (by simp)
    have hi2c := fun wx => in_any (w := wx) b [35, 32] (by simp)
    have hst := stroke_if hw1 (k == 0) (k + 1 == s.length) _ _ _ rfl rfl rfl
    rw [hst] at heq
    change pvTo s (k + 1) = o ++ if (decide (b ∈ [44, 43, 34, 92, 60, 62, 59]) || _ || _) = true then _ else _ at heq
    clear hst hw1 hpb
    generalize decide (b ∈ [44, 43, 34, 92, 60, 62, 59]) = m at *
    generalize decide (b ∈ ([35, 32] : List UInt8)) = h at *
    generalize decide (b = 32) = q at *
    generalize (k == 0) = f at *
    generalize (k + 1 == s.length) = g at *
    cases m
    case true =>
      simp only [Bool.true_or, if_true] at heq
      replace heq := Lib.hid heq
      go_wp2_with fail
      refine (hi1c _).mono ?_
      rintro e wa ⟨rfl, hwa⟩
      rw [hwa]
      clear hwa
      go_wp2_with ((with_reducible show wpList _ _ _ (⟨some 60, _, _, _, _, _⟩ :: _) _ _); refine wp_app2 tyB p1 hx92.out rfl hol.out rfl (.tmp 57) (.tmp 59) rfl rfl rfl ?_; intro v2 w2 k1 k2 k3)
      exact ⟨⟨k + 1, by omega, by go_num, by rw [heq.out]; exact k1, k3.fresh p2 hpre, ext_app0 p3 p2 k2⟩, by simp [intOf] <;> omega⟩
    case false =>
      cases f
      case true =>
        cases h
        case true =>
          simp only [Bool.or_true, Bool.true_or, Bool.and_self, if_true] at heq
          replace heq := Lib.hid heq
          go_wp2_with fail
          refine (hi1c _).mono ?_
          rintro e wa ⟨rfl, hwa⟩
          rw [hwa]
          clear hwa
          go_wp2_with fail
          refine (hi2c _).mono ?_
          rintro e wa ⟨rfl, hwa⟩
          rw [hwa]
          clear hwa
          go_wp2_with ((with_reducible show wpList _ _ _ (⟨some 60, _, _, _, _, _⟩ :: _) _ _); refine wp_app2 tyB p1 hx92.out rfl hol.out rfl (.tmp 57) (.tmp 59) rfl rfl rfl ?_; intro v2 w2 k1 k2 k3)
          exact ⟨⟨k + 1, by omega, by go_num, by rw [heq.out]; exact k1, k3.fresh p2 hpre, ext_app0 p3 p2 k2⟩, by simp [intOf] <;> omega⟩
        case false =>
          cases g
          case true =>
            cases q
            case true =>
              simp only [Bool.or_true, Bool.and_false, Bool.and_self, Bool.or_self, if_true] at heq
              replace heq := Lib.hid heq
              go_wp2_with fail
              refine (hi1c _).mono ?_
              rintro e wa ⟨rfl, hwa⟩
              rw [hwa]
              clear hwa
              go_wp2_with fail
              refine (hi2c _).mono ?_
              rintro e wa ⟨rfl, hwa⟩
              rw [hwa]
              clear hwa
              go_wp2_with ((with_reducible show wpList _ _ _ (⟨some 60, _, _, _, _, _⟩ :: _) _ _); refine wp_app2 tyB p1 hx92.out rfl hol.out rfl (.tmp 57) (.tmp 59) rfl rfl rfl ?_; intro v2 w2 k1 k2 k3)
              exact ⟨⟨k + 1, by omega, by go_num, by rw [heq.out]; exact k1, k3.fresh p2 hpre, ext_app0 p3 p2 k2⟩, by simp [intOf] <;> omega⟩
            case false =>
              simp only [Bool.and_false, Bool.or_self, Bool.false_eq_true, if_false] at heq
              replace heq := Lib.hid heq
              go_wp2_with fail
              refine (hi1c _).mono ?_
              rintro e wa ⟨rfl, hwa⟩
              rw [hwa]
              clear hwa
              go_wp2_with fail
              refine (hi2c _).mono ?_
              rintro e wa ⟨rfl, hwa⟩
              rw [hwa]
              clear hwa
              go_wp2_with ((with_reducible show wpList _ _ _ (⟨some 18, _, _, _, _, _⟩ :: _) _ _); refine wp_app1 tyB p1 rfl hol1.out rfl (.tmp 15) (.tmp 17) rfl rfl rfl ?_; intro v2 w2 k1 k2 k3)
              exact ⟨⟨k + 1, by omega, by go_num, by rw [heq.out]; exact k1, k3.fresh p2 hpre, ext_app0 p3 p2 k2⟩, by simp [intOf] <;> omega⟩
          case false =>
            simp only [Bool.and_false, Bool.false_and, Bool.or_self, Bool.false_eq_true, if_false] at heq
            replace heq := Lib.hid heq
            go_wp2_with fail
            refine (hi1c _).mono ?_
            rintro e wa ⟨rfl, hwa⟩
            rw [hwa]
            clear hwa
            go_wp2_with fail
            refine (hi2c _).mono ?_
            rintro e wa ⟨rfl, hwa⟩
            rw [hwa]
            clear hwa
            go_wp2_with ((with_reducible show wpList _ _ _ (⟨some 18, _, _, _, _, _⟩ :: _) _ _); refine wp_app1 tyB p1 rfl hol1.out rfl (.tmp 15) (.tmp 17) rfl rfl rfl ?_; intro v2 w2 k1 k2 k3)
            exact ⟨⟨k + 1, by omega, by go_num, by rw [heq.out]; exact k1, k3.fresh p2 hpre, ext_app0 p3 p2 k2⟩, by simp [intOf] <;> omega⟩
      case false =>
        cases g
        case true =>
          cases q
          case true =>
            simp only [Bool.or_true, Bool.false_and, Bool.and_self, Bool.or_self, if_true] at heq
            replace heq := Lib.hid heq
            go_wp2_with fail
            refine (hi1c _).mono ?_
            rintro e wa ⟨rfl, hwa⟩
            rw [hwa]
            clear hwa
            go_wp2_with ((with_reducible show wpList _ _ _ (⟨some 60, _, _, _, _, _⟩ :: _) _ _); refine wp_app2 tyB p1 hx92.out rfl hol.out rfl (.tmp 57) (.tmp 59) rfl rfl rfl ?_; intro v2 w2 k1 k2 k3)
            exact ⟨⟨k + 1, by omega, by go_num, by rw [heq.out]; exact k1, k3.fresh p2 hpre, ext_app0 p3 p2 k2⟩, by simp [intOf] <;> omega⟩
          case false =>
            simp only [Bool.and_false, Bool.false_and, Bool.or_self, Bool.false_eq_true, if_false] at heq
            replace heq := Lib.hid heq
            go_wp2_with fail
            refine (hi1c _).mono ?_
            rintro e wa ⟨rfl, hwa⟩
            rw [hwa]
            clear hwa
            go_wp2_with ((with_reducible show wpList _ _ _ (⟨some 18, _, _, _, _, _⟩ :: _) _ _); refine wp_app1 tyB p1 rfl hol1.out rfl (.tmp 15) (.tmp 17) rfl rfl rfl ?_; intro v2 w2 k1 k2 k3)
            exact ⟨⟨k + 1, by omega, by go_num, by rw [heq.out]; exact k1, k3.fresh p2 hpre, ext_app0 p3 p2 k2⟩, by simp [intOf] <;> omega⟩
        case false =>
          simp only [Bool.false_and, Bool.or_self, Bool.false_eq_true, if_false] at heq
          replace heq := Lib.hid heq
          go_wp2_with fail
          refine (hi1c _).mono ?_
          rintro e wa ⟨rfl, hwa⟩
          rw [hwa]
          clear hwa
          go_wp2_with ((with_reducible show wpList _ _ _ (⟨some 18, _, _, _, _, _⟩ :: _) _ _); refine wp_app1 tyB p1 rfl hol1.out rfl (.tmp 15) (.tmp 17) rfl rfl rfl ?_; intro v2 w2 k1 k2 k3)
          exact ⟨⟨k + 1, by omega, by go_num, by rw [heq.out]; exact k1, k3.fresh p2 hpre, ext_app0 p3 p2 k2⟩, by simp [intOf] <;> omega⟩

end Go.Proofs.Ytacmbomnjedbeaa
