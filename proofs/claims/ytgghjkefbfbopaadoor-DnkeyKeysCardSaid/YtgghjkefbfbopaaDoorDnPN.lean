/- dn: printValue, whatever the bytes are. -/
import Derived.Test.YtgghjkefbfbopaaDoorDnPM
import Derived.Deep.RegionHeld3
namespace Go.Proofs.YtgghjkefbfbopaaDoor
open Go.RowKit
set_option maxRecDepth 100000

section
variable {P : Program} {w : World} {t e : TypeId} {z : Value} {bytes : Nat} {ops : Array Oper} {o : Oper} {a : Act} {Q : Exit → Act → World → Prop}
/-- append(v, bytes that were laid) at a step of a region that draws. -/
theorem step_app {K : Act → World → Prop} {E : Prop} (d : Tmp) (hT : SliceTy P t e z bytes) {v y : Value} {S : Nat → Prop} {xs news : List Value} (hown : Own w e v xs) (hr : Sl w S y news) (h1 : ∀ u ∈ news, u.oneCell' = true)
    (hn : (xs.length + news.length) * bytes ≤ 140737488355328) (hgd : o.guard = none) (hd : o.dst = some d) (s yy : Operand) (ho : o.op = .call { callee := .builtin .append, args := #[s, yy], argTypes := #[t, t] }) (hs : a.eval s = v) (hy : a.eval yy = y)
    (h : ∀ v' w', Own w' e v' (xs ++ news) → Mod (own v) w w' → Next w.heap.size v v' → K (a.put o.dst v') w') : if Region.wanted o (yielded ops a.tmps) = true then Oper.wp P o a w K Q else E := by
  have hw : Region.wanted o (yielded ops a.tmps) = true := by simp [Region.wanted, hgd]
  rw [if_pos hw]
  obtain ⟨v', w', hrun, h2, h3, h4⟩ := run_app (P := P) hT o.type hown hr h1 hn
  unfold Oper.wp execOp
  simp only [ho, resolve, invoke, builtin, Sem.run_bind, Sem.run_pure, Result.andThen_ok, List.map_toArray, List.map_cons, List.map_nil, hs, hy, hrun]
  simp only [Oper.upon, hd]
  have := h v' w' h2 h3 h4
  rw [hd] at this
  exact this
end

theorem and15 (b : UInt8) : bits .and .u8 (b.toNat : Int) 15 = ((b.toNat % 16 : Nat) : Int) := by
  have : ∀ k : Nat, k < 256 → bits .and .u8 (k : Int) 15 = ((k % 16 : Nat) : Int) := by decide +kernel
  exact this _ b.toNat_lt

theorem hexI (n : Nat) (hn : n < 16) (h' : n < (⟨#[48, 49, 50, 51, 52, 53, 54, 55, 56, 57, 97, 98, 99, 100, 101, 102]⟩ : ByteArray).size) : (⟨#[48, 49, 50, 51, 52, 53, 54, 55, 56, 57, 97, 98, 99, 100, 101, 102]⟩ : ByteArray)[n]'h' = hexB n := by
  have : ∀ n, n < 16 → ∀ h', (⟨#[48, 49, 50, 51, 52, 53, 54, 55, 56, 57, 97, 98, 99, 100, 101, 102]⟩ : ByteArray)[n]'h' = hexB n := by decide
  exact this n hn h'

set_option maxHeartbeats 8000000 in
theorem printWild_any {w : World} {v : Value} {l s : List UInt8} (h : Own w 5 v (l.map bv)) (hn : l.length + 3 * s.length ≤ 100000000) :
    Calls Tryd.prog 62 #[v, sv s] w fun e w' => ∃ v', e = .returned v' ∧ Own w' 5 v' ((l ++ pvB s).map bv) ∧ Next w.heap.size v v' ∧ Mod (own v) w w' := by
  have hsz := sv_size s
  go_enter Tryd.func62, Tryd.ntmps62
  go_wp2_with fail
  go_loopw [0, 11] (fun vo i wr => ∃ k : Nat, k ≤ s.length ∧ i = .int .i64 k ∧ Own wr 5 vo ((l ++ pvTo s k).map bv) ∧ Next w.heap.size v vo ∧ Mod (own v) w wr) (fun _ i _ => s.length - (intOf i).toNat)
  case atStart => exact ⟨0, Nat.zero_le _, rfl, by simpa [pvTo] using h, Next.refl _ _, Mod.refl _ _⟩
  case round =>
    obtain ⟨k, hk, rfl, p1, p2, p3⟩ := hrel
    by_cases hlt : k < s.length
    case neg =>
      have hbl : decide ((k : Int) < (s.length : Int)) = false := dfalse (by omega)
      obtain rfl : k = s.length := by omega
      go_wp2_with fail
      go_ret
      exact ⟨_, rfl, p1, p2, p3⟩
    have hbl : decide ((k : Int) < (s.length : Int)) = true := dtrue (by omega)
    obtain ⟨b, hbk⟩ : ∃ b, b = s[k] := ⟨_, rfl⟩
    have hg : ∀ h', (⟨s.toArray⟩ : ByteArray)[k]'h' = b := fun h' => (sv_get s k hlt h').trans hbk.symm
    have hsn := pvTo_snoc s hlt
    rw [← hbk] at hsn
    have hel := pvTo_len s k
    have hol : (l ++ pvTo s k).length + 3 ≤ 140737488355328 := by rw [List.length_append]; omega
    have heq : l ++ pvTo s (k + 1) = (l ++ pvTo s k) ++ strokeB b (k == 0) (k + 1 == s.length) := by rw [hsn, List.append_assoc]
    clear hsn hel hbk
    generalize l ++ pvTo s k = o at *
    have hi0 : (0 : Int) ≤ (k : Int) := by omega
    have hi1 : (k : Int) < (s.length : Int) := by omega
    have hb256 := b.toNat_lt
    by_cases hw1 : b.toNat < 32 ∨ 126 < b.toNat
    · unfold strokeB at heq
      rw [if_pos hw1] at heq
      replace heq := Lib.hid heq
      have hh1 : ∃ q, decide ((b.toNat : Int) < 32) = q ∧ (q = false → decide ((126 : Int) < (b.toNat : Int)) = true) := ⟨_, rfl, fun hq => dtrue (by have := of_decide_eq_false hq; omega)⟩
      obtain ⟨q, hq1, hq2⟩ := hh1
      generalize ((k : Int) == 0) = x1 at *
      generalize ((k : Int) == (s.length : Int) - 1) = x2 at *
      have e0 : (0 : Int) ≤ (b.toNat : Int) / 16 := by omega
      have e1 : (b.toNat : Int) / 16 < 16 := by omega
      have e2 : (0 : Int) ≤ (b.toNat : Int) % 16 := by omega
      have e3 : (b.toNat : Int) % 16 < 16 := by omega
      have eb0 : (0 : Int) ≤ (b.toNat : Int) := by omega
      have eb1 : (b.toNat : Int) < 256 := by omega
      have e4 := and15 b
      have t1 : ∀ h', (⟨#[48, 49, 50, 51, 52, 53, 54, 55, 56, 57, 97, 98, 99, 100, 101, 102]⟩ : ByteArray)[((b.toNat : Int) / 16).toNat]'h' = hexB (b.toNat / 16) := fun h' => (hexI _ (by omega) h').trans (by congr 1)
      have t2 : ∀ h', (⟨#[48, 49, 50, 51, 52, 53, 54, 55, 56, 57, 97, 98, 99, 100, 101, 102]⟩ : ByteArray)[((b.toNat : Int) % 16).toNat]'h' = hexB (b.toNat % 16) := fun h' => (hexI _ (by omega) h').trans (by congr 1)
      have pw : Own wr.drew 5 u0 (o.map bv) := p1
      have mw : Mod (own v) w wr.drew := p3.drew
      have pd := pw.alloc (.cells #[.int .u8 92, bv (hexB (b.toNat / 16)), bv (hexB (b.toNat % 16))] 5)
      have pl := Sl.lit wr.drew 5 [(.int .u8 92 : Value), bv (hexB (b.toNat / 16)), bv (hexB (b.toNat % 16))] (by simp [maxLen])
      have pn := Lib.hid (show ((o.map bv).length + [(.int .u8 92 : Value), bv (hexB (b.toNat / 16)), bv (hexB (b.toNat % 16))].length) * 1 ≤ 140737488355328 by simp only [List.length_map, List.length_cons, List.length_nil]; omega)
      have heq2 : Hid ((l ++ pvTo s (k + 1)).map bv = o.map bv ++ [(.int .u8 92 : Value), bv (hexB (b.toNat / 16)), bv (hexB (b.toNat % 16))]) := Lib.hid (by rw [heq.out, List.map_append]; rfl)
      have hone : ∀ u ∈ [(.int .u8 92 : Value), bv (hexB (b.toNat / 16)), bv (hexB (b.toNat % 16))], u.oneCell' = true := by
        intro u hu
        simp only [List.mem_cons, List.not_mem_nil, or_false] at hu
        rcases hu with rfl | rfl | rfl <;> rfl
      generalize hexB (b.toNat / 16) = y1 at *
      generalize hexB (b.toNat % 16) = y2 at *
      clear p1
      obtain ⟨A, cc, rfl⟩ := pw.shape
      rw [List.length_map] at p2 pw pd
      cases q
      all_goals (try replace hq2 := hq2 rfl)
      all_goals go_wp2_with fail
      all_goals go_region_held3 (fun _ => True) (exact trivial) (first
        | (refine step_app 43 tyB pd pl hone pn.out rfl rfl (.tmp 35) (.tmp 42) rfl rfl rfl ?_; intro v2 w2 k1 k2 k3))
      all_goals go_wp2_with fail
      all_goals exact ⟨⟨k + 1, by omega, by go_num, by rw [heq2.out]; exact k1, p2.trans k3 (mw.alloc _).size, mw.then_ (mod_app k2) (fun b hb h => p2.sub hb h)⟩, by simp [intOf] <;> omega⟩
    have hpb : 32 ≤ b.toNat ∧ b.toNat ≤ 126 := by omega
    replace hol : o.length + 2 ≤ 140737488355328 := by omega
    clear hw1
    have hb1 : decide ((b.toNat : Int) < 32) = false := dfalse (by omega)
    have hb2 : decide ((126 : Int) < (b.toNat : Int)) = false := dfalse (by omega)
    have hol1 := Lib.hid (show o.length + 1 ≤ 140737488355328 by omega)
    replace hol := Lib.hid hol
    have hx92 := Lib.hid (show (92 : Int) = ((92 : UInt8).toNat : Int) from rfl)
    have hq1 : ((k : Int) == 0) = (k == 0) := by rw [Bool.eq_iff_iff, beq_iff_eq, beq_iff_eq]; omega
    have hq2 : ((k : Int) == (s.length : Int) - 1) = (k + 1 == s.length) := by rw [Bool.eq_iff_iff, beq_iff_eq, beq_iff_eq]; omega
    have hq3 : ((b.toNat : Int) == 35) = decide (b = 35) := by
      rw [Bool.eq_iff_iff, beq_iff_eq, decide_eq_true_eq, ← UInt8.toNat_inj, show (35 : UInt8).toNat = 35 from rfl]; omega
    have hq4 : ((b.toNat : Int) == 32) = decide (b = 32) := by
      rw [Bool.eq_iff_iff, beq_iff_eq, decide_eq_true_eq, ← UInt8.toNat_inj, show (32 : UInt8).toNat = 32 from rfl]; omega
    have hix := idx_mem sepB b
    have hno : ¬ (b.toNat < 32 ∨ 126 < b.toNat) := by omega
    unfold strokeB at heq
    rw [if_neg hno] at heq
    clear hno hpb
    generalize (k == 0) = f at *
    generalize (k + 1 == s.length) = g at *
    obtain ⟨A, cc, rfl⟩ := p1.shape
    rw [List.length_map] at p1 p2
    by_cases hm : b ∈ sepB
    · rw [decide_eq_true hm] at hix
      rw [if_pos (.inl hm)] at heq
      replace heq := Lib.hid heq
      clear hq3 hq4 hm
      go_wp2_with fail
      refine (sidx_any sepB b).mono ?_
      rintro e w6 ⟨rfl, hw6⟩
      rw [hw6]
      clear hw6
      go_wp2_with ((with_reducible show wpList _ _ _ (⟨some 64, _, _, _, _, _⟩ :: _) _ _); refine wp_app2 tyB p1 hx92.out rfl hol.out rfl (.tmp 61) (.tmp 63) rfl rfl rfl ?_; intro v2 w2 k1 k2 k3)
      refine ⟨⟨k + 1, by omega, by go_num, by rw [heq.out]; exact k1, p2.trans k3 p3.size, p3.then_ k2 (fun b hb h => p2.sub hb h)⟩, by simp [intOf] <;> omega⟩
    rw [decide_eq_false hm] at hix
    by_cases h35 : b = 35
    · rw [dtrue h35] at hq3
      have hq4' : ((b.toNat : Int) == 32) = false := by rw [h35]; rfl
      cases f
      · rw [if_neg (by rintro (h | ⟨_, h⟩ | ⟨h, _⟩); exact hm h; cases h; rw [h35] at h; cases h)] at heq
        replace heq := Lib.hid heq
        clear hq4 hm h35
        go_wp2_with fail
        refine (sidx_any sepB b).mono ?_
        rintro e w6 ⟨rfl, hw6⟩
        rw [hw6]
        clear hw6
        go_wp2_with ((with_reducible show wpList _ _ _ (⟨some 27, _, _, _, _, _⟩ :: _) _ _); refine wp_app1 tyB p1 rfl hol1.out rfl (.tmp 24) (.tmp 26) rfl rfl rfl ?_; intro v2 w2 k1 k2 k3)
        refine ⟨⟨k + 1, by omega, by go_num, by rw [heq.out]; exact k1, p2.trans k3 p3.size, p3.then_ k2 (fun b hb h => p2.sub hb h)⟩, by simp [intOf] <;> omega⟩
      · rw [if_pos (.inr (.inl ⟨h35, rfl⟩))] at heq
        replace heq := Lib.hid heq
        clear hq4 hm h35
        go_wp2_with fail
        refine (sidx_any sepB b).mono ?_
        rintro e w6 ⟨rfl, hw6⟩
        rw [hw6]
        clear hw6
        go_wp2_with ((with_reducible show wpList _ _ _ (⟨some 64, _, _, _, _, _⟩ :: _) _ _); refine wp_app2 tyB p1 hx92.out rfl hol.out rfl (.tmp 61) (.tmp 63) rfl rfl rfl ?_; intro v2 w2 k1 k2 k3)
        refine ⟨⟨k + 1, by omega, by go_num, by rw [heq.out]; exact k1, p2.trans k3 p3.size, p3.then_ k2 (fun b hb h => p2.sub hb h)⟩, by simp [intOf] <;> omega⟩
    rw [dfalse h35] at hq3
    by_cases h32 : b = 32
    · rw [dtrue h32] at hq4
      cases f
      · cases g
        · rw [if_neg (by rintro (h | ⟨h, _⟩ | ⟨_, h | h⟩); exact hm h; exact h35 h; cases h; cases h)] at heq
          replace heq := Lib.hid heq
          clear hm h35 h32
          go_wp2_with fail
          refine (sidx_any sepB b).mono ?_
          rintro e w6 ⟨rfl, hw6⟩
          rw [hw6]
          clear hw6
          go_wp2_with ((with_reducible show wpList _ _ _ (⟨some 27, _, _, _, _, _⟩ :: _) _ _); refine wp_app1 tyB p1 rfl hol1.out rfl (.tmp 24) (.tmp 26) rfl rfl rfl ?_; intro v2 w2 k1 k2 k3)
          refine ⟨⟨k + 1, by omega, by go_num, by rw [heq.out]; exact k1, p2.trans k3 p3.size, p3.then_ k2 (fun b hb h => p2.sub hb h)⟩, by simp [intOf] <;> omega⟩
        · rw [if_pos (.inr (.inr ⟨h32, .inr rfl⟩))] at heq
          replace heq := Lib.hid heq
          clear hm h35 h32
          go_wp2_with fail
          refine (sidx_any sepB b).mono ?_
          rintro e w6 ⟨rfl, hw6⟩
          rw [hw6]
          clear hw6
          go_wp2_with ((with_reducible show wpList _ _ _ (⟨some 64, _, _, _, _, _⟩ :: _) _ _); refine wp_app2 tyB p1 hx92.out rfl hol.out rfl (.tmp 61) (.tmp 63) rfl rfl rfl ?_; intro v2 w2 k1 k2 k3)
          refine ⟨⟨k + 1, by omega, by go_num, by rw [heq.out]; exact k1, p2.trans k3 p3.size, p3.then_ k2 (fun b hb h => p2.sub hb h)⟩, by simp [intOf] <;> omega⟩
      · rw [if_pos (.inr (.inr ⟨h32, .inl rfl⟩))] at heq
        replace heq := Lib.hid heq
        clear hm h35 h32
        go_wp2_with fail
        refine (sidx_any sepB b).mono ?_
        rintro e w6 ⟨rfl, hw6⟩
        rw [hw6]
        clear hw6
        go_wp2_with ((with_reducible show wpList _ _ _ (⟨some 64, _, _, _, _, _⟩ :: _) _ _); refine wp_app2 tyB p1 hx92.out rfl hol.out rfl (.tmp 61) (.tmp 63) rfl rfl rfl ?_; intro v2 w2 k1 k2 k3)
        refine ⟨⟨k + 1, by omega, by go_num, by rw [heq.out]; exact k1, p2.trans k3 p3.size, p3.then_ k2 (fun b hb h => p2.sub hb h)⟩, by simp [intOf] <;> omega⟩
    rw [dfalse h32] at hq4
    rw [if_neg (by rintro (h | ⟨h, _⟩ | ⟨h, _⟩); exact hm h; exact h35 h; exact h32 h)] at heq
    replace heq := Lib.hid heq
    clear hm h35 h32
    go_wp2_with fail
    refine (sidx_any sepB b).mono ?_
    rintro e w6 ⟨rfl, hw6⟩
    rw [hw6]
    clear hw6
    go_wp2_with ((with_reducible show wpList _ _ _ (⟨some 27, _, _, _, _, _⟩ :: _) _ _); refine wp_app1 tyB p1 rfl hol1.out rfl (.tmp 24) (.tmp 26) rfl rfl rfl ?_; intro v2 w2 k1 k2 k3)
    refine ⟨⟨k + 1, by omega, by go_num, by rw [heq.out]; exact k1, p2.trans k3 p3.size, p3.then_ k2 (fun b hb h => p2.sub hb h)⟩, by simp [intOf] <;> omega⟩
end Go.Proofs.YtgghjkefbfbopaaDoor
