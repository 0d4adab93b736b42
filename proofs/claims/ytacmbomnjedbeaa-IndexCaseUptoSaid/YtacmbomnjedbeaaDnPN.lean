/- dn: what the law looks at; two names, part by part; the name above. -/
import Derived.Test.YtacmbomnjedbeaaDnPH
import Derived.Test.YtacmbomnjedbeaaDnG
import Derived.Test.YtacmbomnjedbeaaDnK
import Derived.Deep.RegionHeld3
namespace Go.Proofs.Ytacmbomnjedbeaa
open Go.RowKit
set_option maxRecDepth 100000

end Go.Proofs.Ytacmbomnjedbeaa
namespace Go.Proofs.Ytacmbomnjedbeaa
open Go.RowKit
set_option maxRecDepth 100000

def kText : List UInt8 := [99, 110, 61, 97, 92, 44, 98, 32, 44, 32, 79, 32, 61, 32, 120, 32, 121]
def kName : List Av := [([99, 110], [97, 44, 98]), ([79], [120, 32, 121])]
theorem parse_known : parseB kText = (kName, 0) := by decide +kernel
theorem print_known : printB kName = [99, 110, 61, 97, 92, 44, 98, 44, 79, 61, 120, 32, 121] := by decide +kernel
theorem plain_known : ∀ a ∈ kName, Plain a.2 := by unfold Plain; decide +kernel

end Go.Proofs.Ytacmbomnjedbeaa
namespace Go.Proofs.Ytacmbomnjedbeaa
open Go.RowKit
set_option maxRecDepth 100000

theorem under_self (L : List Av) : underN L L := ⟨Nat.le_refl _, by rw [Nat.sub_self, List.drop_zero]; exact rfl⟩
theorem under_nil (L : List Av) : underN L [] := ⟨Nat.zero_le _, by simp [sameN]⟩
theorem under_drop (L : List Av) (k : Nat) (hk : k ≤ L.length) : underN L (L.drop k) := by
  refine ⟨by simp, ?_⟩
  have : L.length - (L.drop k).length = k := by rw [List.length_drop]; omega
  rw [this]; exact rfl
theorem fits_wN {L : List Av} (h : wN L ≤ 1000) : Fits L := fits_of (by omega)
theorem nil_as (w : World) : As w (fun b => b < w.heap.size) (.slice none 0 0) ([] : List Av) := ⟨none, 0, rfl, Nat.le_refl _, by simp [maxLen], by simp, rfl, fun j u hu => by simp at hu⟩

end Go.Proofs.Ytacmbomnjedbeaa
namespace Go.Proofs.Ytacmbomnjedbeaa
open Go.RowKit
set_option maxRecDepth 100000

theorem fstep_no {o : List UInt8} {b : UInt8} (h : low b = 32 ∧ (o = [] ∨ o.getLast? = some 32)) : fstep o b = o := if_pos h
theorem fstep_yes {o : List UInt8} {b : UInt8} (h : ¬ (low b = 32 ∧ (o = [] ∨ o.getLast? = some 32))) : fstep o b = o ++ [low b] := if_neg h
theorem low_low (b : UInt8) : low (low b) = low b := by
  by_cases h : 65 ≤ b.toNat ∧ b.toNat ≤ 90
  · exact low_no (by rw [low_up h]; omega)
  · rw [low_no h, low_no h]
theorem fold_fixed (s : List UInt8) : ∀ o : List UInt8, o.foldl fstep [] = o → (s.foldl fstep o).foldl fstep [] = s.foldl fstep o := by
  induction s with
  | nil => intro o h; exact h
  | cons b s ih =>
    intro o h
    rw [List.foldl_cons]
    apply ih
    by_cases hc : low b = 32 ∧ (o = [] ∨ o.getLast? = some 32)
    · rw [fstep_no hc]; exact h
    · rw [fstep_yes hc, List.foldl_append, h, List.foldl_cons, List.foldl_nil, fstep_yes (by rw [low_low]; exact hc), low_low]
theorem fixed_last {p : List UInt8} {c : UInt8} (h : (p ++ [c]).foldl fstep [] = p ++ [c]) : p.foldl fstep [] = p ∧ ¬ (low c = 32 ∧ (p = [] ∨ p.getLast? = some 32)) := by
  rw [List.foldl_append, List.foldl_cons, List.foldl_nil] at h
  have hl := ffold_len p []
  rw [List.length_nil, Nat.zero_add] at hl
  by_cases hc : low c = 32 ∧ (p.foldl fstep [] = [] ∨ (p.foldl fstep []).getLast? = some 32)
  · rw [fstep_no hc] at h
    have := congrArg List.length h
    rw [List.length_append, List.length_singleton] at this
    omega
  · rw [fstep_yes hc] at h
    have h1 := (List.append_inj' h rfl).1
    exact ⟨h1, by rw [h1] at hc; exact hc⟩
theorem fixed_cut {o : List UInt8} (h : o.foldl fstep [] = o) : (fcut o).foldl fstep [] = fcut o ∧ fcut (fcut o) = fcut o := by
  by_cases hl : o.getLast? = some 32
  · obtain ⟨p, rfl⟩ : ∃ p, o = p ++ [32] := by
      have hne : o ≠ [] := by rintro rfl; simp at hl
      refine ⟨o.dropLast, ?_⟩
      rw [List.getLast?_eq_some_getLast hne] at hl
      have := List.dropLast_concat_getLast hne
      rw [Option.some.inj hl] at this
      exact this.symm
    obtain ⟨h1, h2⟩ := fixed_last h
    have hf : fcut (p ++ [32]) = p := by unfold fcut; rw [if_pos hl, List.dropLast_concat]
    rw [hf]
    refine ⟨h1, ?_⟩
    unfold fcut
    rw [if_neg (fun hp => h2 ⟨rfl, .inr hp⟩)]
  · have hf : fcut o = o := by unfold fcut; rw [if_neg hl]
    rw [hf]
    exact ⟨h, hf⟩
theorem fold_twice (s : List UInt8) : foldB (foldB s) = foldB s := by
  unfold foldB
  obtain ⟨h1, h2⟩ := fixed_cut (fold_fixed s [] rfl)
  rw [h1, h2]
theorem fold_gap (s : List UInt8) : foldB ([32, 32] ++ s ++ [32]) = foldB s := by
  unfold foldB
  rw [List.foldl_append, List.foldl_append]
  have h0 : [32, 32].foldl fstep [] = [] := by decide
  rw [h0]
  obtain ⟨o, ho⟩ : ∃ o, o = s.foldl fstep [] := ⟨_, rfl⟩
  rw [← ho, List.foldl_cons, List.foldl_nil]
  by_cases hc : o = [] ∨ o.getLast? = some 32
  · unfold fstep
    rw [if_pos ⟨by decide, hc⟩]
  · have h1 : fstep o 32 = o ++ [32] := by
      unfold fstep
      rw [if_neg (fun h => hc h.2)]
      rfl
    rw [h1]
    unfold fcut
    rw [if_pos List.getLast?_concat, if_neg (fun h => hc (.inr h)), List.dropLast_concat]
theorem normV_twice (s : List UInt8) : normV (normV s) = normV s := by
  by_cases h : foldB s = [] ∧ s ≠ []
  · have : normV s = [32] := by unfold normV; rw [if_pos h]
    rw [this]
    decide
  · have : normV s = foldB s := by unfold normV; rw [if_neg h]
    rw [this]
    unfold normV
    rw [fold_twice]
    by_cases h2 : foldB s = []
    · rw [h2]; rfl
    · rw [if_neg (fun hh => h2 hh.1)]
theorem norm_twice (L : List Av) : norm (norm L) = norm L := by
  unfold norm
  rw [List.map_map]
  congr 1
  funext a
  show normA (normA a) = normA a
  unfold normA
  rw [fold_twice, normV_twice]

theorem cat_data (a b : List UInt8) : ((⟨a.toArray⟩ : ByteArray) ++ ⟨b.toArray⟩) = ⟨(a ++ b).toArray⟩ := by
  apply ByteArray.ext
  rw [ByteArray.data_append]
  simp
theorem gap_data (s : List UInt8) : (⟨#[32, 32]⟩ : ByteArray) ++ ⟨s.toArray⟩ ++ ⟨#[32]⟩ = ⟨([32, 32] ++ s ++ [32]).toArray⟩ := by
  rw [← cat_data, ← cat_data]
theorem bb_of (F : List UInt8) : (F == F) = true := beq_self_eq_true F

end Go.Proofs.Ytacmbomnjedbeaa
namespace Go.Proofs.Ytacmbomnjedbeaa
open Go.RowKit
set_option maxRecDepth 100000

end Go.Proofs.Ytacmbomnjedbeaa
namespace Go.Proofs.Ytacmbomnjedbeaa
open Go.RowKit
set_option maxRecDepth 100000

section
variable {P : Program} {w : World} {t e : TypeId} {z : Value} {bytes : Nat} {ops : Array Oper} {o : Oper} {a : Act} {Q : Exit → Act → World → Prop}
/-- append(v, bytes that were laid) at a step of a region that draws. -/
theorem step_app {K : Act → World → Prop} {E : Prop} (d : Tmp) (hT : SliceTy P t e z bytes) {v y : Value} {S : Nat → Prop} {xs news : List Value} (hown : Own w e v xs) (hr : Sl w S y news) (h1 : ∀ u ∈ news, u.oneCell' = true)
    (hn : (xs.length + news.length) * bytes ≤ 140737488355328) (hgd : o.guard = none) (hd : o.dst = some d) (s yy : Operand) (ho : o.op = .call { callee := .builtin .append, args := #[s, yy], argTypes := #[t, t] }) (hs : a.eval s = v) (hy : a.eval yy = y)
    (h : ∀ v' w', Own w' e v' (xs ++ news) → Mod (own v) w w' → Next w.heap.size v v' → K (a.put o.dst v') w') : if Region.wanted o (yielded ops a.tmps) = true then Oper.wp P o a w K Q else E := by
  have hw : Region.wanted o (yielded ops a.tmps) = true := by simp [Region.wanted, hgd]
  rw [if_pos hw]
  obtain ⟨v', w', hrun, h2, h3, h4⟩ := run_app (P := P) hT o.type hown hr h1 hn
  unfold Oper.wp execOp
  simp only [ho, resolve, invoke, builtin, Sem.run_bind, Sem.run_pure, Result.andThen_ok, List.map_toArray, List.map_cons, List.map_nil, hs, hy, hrun]
  simp only [Oper.upon, hd]
  have := h v' w' h2 h3 h4
  rw [hd] at this
  exact this
end

theorem and15 (b : UInt8) : bits .and .u8 (b.toNat : Int) 15 = ((b.toNat % 16 : Nat) : Int) := by
  have : ∀ k : Nat, k < 256 → bits .and .u8 (k : Int) 15 = ((k % 16 : Nat) : Int) := by decide +kernel
  exact this _ b.toNat_lt

theorem hexI (n : Nat) (hn : n < 16) (h' : n < (⟨#[48, 49, 50, 51, 52, 53, 54, 55, 56, 57, 97, 98, 99, 100, 101, 102]⟩ : ByteArray).size) : (⟨#[48, 49, 50, 51, 52, 53, 54, 55, 56, 57, 97, 98, 99, 100, 101, 102]⟩ : ByteArray)[n]'h' = hexB n := by
  have : ∀ n, n < 16 → ∀ h', (⟨#[48, 49, 50, 51, 52, 53, 54, 55, 56, 57, 97, 98, 99, 100, 101, 102]⟩ : ByteArray)[n]'h' = hexB n := by decide
  exact this n hn h'

set_option maxHeartbeats 8000000 in
theorem printWild_any {w : World} {v : Value} {l s : List UInt8} (h : Own w 5 v (l.map bv)) (hn : l.length + 3 * s.length ≤ 100000000) :
    Calls Try.prog 85 #[v, sv s] w fun e w' => ∃ v', e = .returned v' ∧ Own w' 5 v' ((l ++ pvB s).map bv) ∧ Next w.heap.size v v' ∧ Mod (own v) w w' := by
  have hsz := sv_size s
  go_enter Try.func85, Try.ntmps85
  go_wp2_with fail
  go_loopw [0, 11] (fun vo i wr => ∃ k : Nat, k ≤ s.length ∧ i = .int .i64 k ∧ Own wr 5 vo ((l ++ pvTo s k).map bv) ∧ Next w.heap.size v vo ∧ Mod (own v) w wr) (fun _ i _ => s.length - (intOf i).toNat)
  case atStart => exact ⟨0, Nat.zero_le _, rfl, by simpa [pvTo] using h, Next.refl _ _, Mod.refl _ _⟩
  case round =>
    obtain ⟨k, hk, rfl, p1, p2, p3⟩ := hrel
    by_cases hlt : k < s.length
    case neg =>
      have hbl : decide ((k : Int) < (s.length : Int)) = false := dfalse (by omega)
      obtain rfl : k = s.length := by omega
      go_wp2_with fail
      go_ret
      exact ⟨_, rfl, p1, p2, p3⟩
    have hbl : decide ((k : Int) < (s.length : Int)) = true := dtrue (by omega)
    obtain ⟨b, hbk⟩ : ∃ b, b = s[k] := ⟨_, rfl⟩
    have hg : ∀ h', (⟨s.toArray⟩ : ByteArray)[k]'h' = b := fun h' => (sv_get s k hlt h').trans hbk.symm
    have hsn := pvTo_snoc s hlt
    rw [← hbk] at hsn
    have hel := pvTo_len s k
    have hol : (l ++ pvTo s k).length + 3 ≤ 140737488355328 := by rw [List.length_append]; omega
    have heq : l ++ pvTo s (k + 1) = (l ++ pvTo s k) ++ strokeB b (k == 0) (k + 1 == s.length) := by rw [hsn, List.append_assoc]
    clear hsn hel hbk
    generalize l ++ pvTo s k = o at *
    have hi0 : (0 : Int) ≤ (k : Int) := by omega
    have hi1 : (k : Int) < (s.length : Int) := by omega
    have hb256 := b.toNat_lt
    by_cases hw1 : b.toNat < 32 ∨ 126 < b.toNat
    · unfold strokeB at heq
      rw [if_pos hw1] at heq
      replace heq := Lib.hid heq
      have hh1 : ∃ q, decide ((b.toNat : Int) < 32) = q ∧ (q = false → decide ((126 : Int) < (b.toNat : Int)) = true) := ⟨_, rfl, fun hq => dtrue (by have := of_decide_eq_false hq; omega)⟩
      obtain ⟨q, hq1, hq2⟩ := hh1
      generalize ((k : Int) == 0) = x1 at *
      generalize ((k : Int) == (s.length : Int) - 1) = x2 at *
      have e0 : (0 : Int) ≤ (b.toNat : Int) / 16 := by omega
      have e1 : (b.toNat : Int) / 16 < 16 := by omega
      have e2 : (0 : Int) ≤ (b.toNat : Int) % 16 := by omega
      have e3 : (b.toNat : Int) % 16 < 16 := by omega
      have eb0 : (0 : Int) ≤ (b.toNat : Int) := by omega
      have eb1 : (b.toNat : Int) < 256 := by omega
      have e4 := and15 b
      have t1 : ∀ h', (⟨#[48, 49, 50, 51, 52, 53, 54, 55, 56, 57, 97, 98, 99, 100, 101, 102]⟩ : ByteArray)[((b.toNat : Int) / 16).toNat]'h' = hexB (b.toNat / 16) := fun h' => (hexI _ (by omega) h').trans (by congr 1)
      have t2 : ∀ h', (⟨#[48, 49, 50, 51, 52, 53, 54, 55, 56, 57, 97, 98, 99, 100, 101, 102]⟩ : ByteArray)[((b.toNat : Int) % 16).toNat]'h' = hexB (b.toNat % 16) := fun h' => (hexI _ (by omega) h').trans (by congr 1)
      have pw : Own wr.drew 5 u0 (o.map bv) := p1
      have mw : Mod (own v) w wr.drew := p3.drew
      have pd := pw.alloc (.cells #[.int .u8 92, bv (hexB (b.toNat / 16)), bv (hexB (b.toNat % 16))] 5)
      have pl := Sl.lit wr.drew 5 [(.int .u8 92 : Value), bv (hexB (b.toNat / 16)), bv (hexB (b.toNat % 16))] (by simp [maxLen])
      have pn := Lib.hid (show ((o.map bv).length + [(.int .u8 92 : Value), bv (hexB (b.toNat / 16)), bv (hexB (b.toNat % 16))].length) * 1 ≤ 140737488355328 by simp only [List.length_map, List.length_cons, List.length_nil]; omega)
      have heq2 : Hid ((l ++ pvTo s (k + 1)).map bv = o.map bv ++ [(.int .u8 92 : Value), bv (hexB (b.toNat / 16)), bv (hexB (b.toNat % 16))]) := Lib.hid (by rw [heq.out, List.map_append]; rfl)
      have hone : ∀ u ∈ [(.int .u8 92 : Value), bv (hexB (b.toNat / 16)), bv (hexB (b.toNat % 16))], u.oneCell' = true := by
        intro u hu
        simp only [List.mem_cons, List.not_mem_nil, or_false] at hu
        rcases hu with rfl | rfl | rfl <;> rfl
      generalize hexB (b.toNat / 16) = y1 at *
      generalize hexB (b.toNat % 16) = y2 at *
      clear p1
      obtain ⟨A, cc, rfl⟩ := pw.shape
      rw [List.length_map] at p2 pw pd
      cases q
      all_goals (try replace hq2 := hq2 rfl)
      all_goals go_wp2_with fail
      all_goals go_region_held3 (fun _ => True) (exact trivial) (first
        | (refine step_app 43 tyB pd pl hone pn.out rfl rfl (.tmp 35) (.tmp 42) rfl rfl rfl ?_; intro v2 w2 k1 k2 k3))
      all_goals go_wp2_with fail
      all_goals exact ⟨⟨k + 1, by omega, by go_num, by rw [heq2.out]; exact k1, p2.trans k3 (mw.alloc _).size, mw.then_ (mod_app k2) (fun b hb h => p2.sub hb h)⟩, by simp [intOf] <;> omega⟩
    have hpb : 32 ≤ b.toNat ∧ b.toNat ≤ 126 := by omega
    replace hol : o.length + 2 ≤ 140737488355328 := by omega
    clear hw1
    have hb1 : decide ((b.toNat : Int) < 32) = false := dfalse (by omega)
    have hb2 : decide ((126 : Int) < (b.toNat : Int)) = false := dfalse (by omega)
    have hol1 := Lib.hid (show o.length + 1 ≤ 140737488355328 by omega)
    replace hol := Lib.hid hol
    have hx92 := Lib.hid (show (92 : Int) = ((92 : UInt8).toNat : Int) from rfl)
    have hq1 : ((k : Int) == 0) = (k == 0) := by rw [Bool.eq_iff_iff, beq_iff_eq, beq_iff_eq]; omega
    have hq2 : ((k : Int) == (s.length : Int) - 1) = (k + 1 == s.length) := by rw [Bool.eq_iff_iff, beq_iff_eq, beq_iff_eq]; omega
    have hq3 : ((b.toNat : Int) == 35) = decide (b = 35) := by
      rw [Bool.eq_iff_iff, beq_iff_eq, decide_eq_true_eq, ← UInt8.toNat_inj, show (35 : UInt8).toNat = 35 from rfl]; omega
    have hq4 : ((b.toNat : Int) == 32) = decide (b = 32) := by
      rw [Bool.eq_iff_iff, beq_iff_eq, decide_eq_true_eq, ← UInt8.toNat_inj, show (32 : UInt8).toNat = 32 from rfl]; omega
    have hix := idx_mem sepB b
    have hno : ¬ (b.toNat < 32 ∨ 126 < b.toNat) := by omega
    unfold strokeB at heq
    rw [if_neg hno] at heq
    clear hno hpb
    generalize (k == 0) = f at *
    generalize (k + 1 == s.length) = g at *
    obtain ⟨A, cc, rfl⟩ := p1.shape
    rw [List.length_map] at p1 p2
    by_cases hm : b ∈ sepB
    · rw [decide_eq_true hm] at hix
      rw [if_pos (.inl hm)] at heq
      replace heq := Lib.hid heq
      clear hq3 hq4 hm
      go_wp2_with fail
      refine (sidx_any sepB b).mono ?_
      rintro e w6 ⟨rfl, hw6⟩
      rw [hw6]
      clear hw6
      go_wp2_with ((with_reducible show wpList _ _ _ (⟨some 64, _, _, _, _, _⟩ :: _) _ _); refine wp_app2 tyB p1 hx92.out rfl hol.out rfl (.tmp 61) (.tmp 63) rfl rfl rfl ?_; intro v2 w2 k1 k2 k3)
      refine ⟨⟨k + 1, by omega, by go_num, by rw [heq.out]; exact k1, p2.trans k3 p3.size, p3.then_ k2 (fun b hb h => p2.sub hb h)⟩, by simp [intOf] <;> omega⟩
    rw [decide_eq_false hm] at hix
    by_cases h35 : b = 35
    · rw [dtrue h35] at hq3
      have hq4' : ((b.toNat : Int) == 32) = false := by rw [h35]; rfl
      cases f
      · rw [if_neg (by rintro (h | ⟨_, h⟩ | ⟨h, _⟩); exact hm h; cases h; rw [h35] at h; cases h)] at heq
        replace heq := Lib.hid heq
        clear hq4 hm h35
        go_wp2_with fail
        refine (sidx_any sepB b).mono ?_
        rintro e w6 ⟨rfl, hw6⟩
        rw [hw6]
        clear hw6
        go_wp2_with ((with_reducible show wpList _ _ _ (⟨some 27, _, _, _, _, _⟩ :: _) _ _); refine wp_app1 tyB p1 rfl hol1.out rfl (.tmp 24) (.tmp 26) rfl rfl rfl ?_; intro v2 w2 k1 k2 k3)
        refine ⟨⟨k + 1, by omega, by go_num, by rw [heq.out]; exact k1, p2.trans k3 p3.size, p3.then_ k2 (fun b hb h => p2.sub hb h)⟩, by simp [intOf] <;> omega⟩
      · rw [if_pos (.inr (.inl ⟨h35, rfl⟩))] at heq
        replace heq := Lib.hid heq
        clear hq4 hm h35
        go_wp2_with fail
        refine (sidx_any sepB b).mono ?_
        rintro e w6 ⟨rfl, hw6⟩
        rw [hw6]
        clear hw6
        go_wp2_with ((with_reducible show wpList _ _ _ (⟨some 64, _, _, _, _, _⟩ :: _) _ _); refine wp_app2 tyB p1 hx92.out rfl hol.out rfl (.tmp 61) (.tmp 63) rfl rfl rfl ?_; intro v2 w2 k1 k2 k3)
        refine ⟨⟨k + 1, by omega, by go_num, by rw [heq.out]; exact k1, p2.trans k3 p3.size, p3.then_ k2 (fun b hb h => p2.sub hb h)⟩, by simp [intOf] <;> omega⟩
    rw [dfalse h35] at hq3
    by_cases h32 : b = 32
    · rw [dtrue h32] at hq4
      cases f
      · cases g
        · rw [if_neg (by rintro (h | ⟨h, _⟩ | ⟨_, h | h⟩); exact hm h; exact h35 h; cases h; cases h)] at heq
          replace heq := Lib.hid heq
          clear hm h35 h32
          go_wp2_with fail
          refine (sidx_any sepB b).mono ?_
          rintro e w6 ⟨rfl, hw6⟩
          rw [hw6]
          clear hw6
          go_wp2_with ((with_reducible show wpList _ _ _ (⟨some 27, _, _, _, _, _⟩ :: _) _ _); refine wp_app1 tyB p1 rfl hol1.out rfl (.tmp 24) (.tmp 26) rfl rfl rfl ?_; intro v2 w2 k1 k2 k3)
          refine ⟨⟨k + 1, by omega, by go_num, by rw [heq.out]; exact k1, p2.trans k3 p3.size, p3.then_ k2 (fun b hb h => p2.sub hb h)⟩, by simp [intOf] <;> omega⟩
        · rw [if_pos (.inr (.inr ⟨h32, .inr rfl⟩))] at heq
          replace heq := Lib.hid heq
          clear hm h35 h32
          go_wp2_with fail
          refine (sidx_any sepB b).mono ?_
          rintro e w6 ⟨rfl, hw6⟩
          rw [hw6]
          clear hw6
          go_wp2_with ((with_reducible show wpList _ _ _ (⟨some 64, _, _, _, _, _⟩ :: _) _ _); refine wp_app2 tyB p1 hx92.out rfl hol.out rfl (.tmp 61) (.tmp 63) rfl rfl rfl ?_; intro v2 w2 k1 k2 k3)
          refine ⟨⟨k + 1, by omega, by go_num, by rw [heq.out]; exact k1, p2.trans k3 p3.size, p3.then_ k2 (fun b hb h => p2.sub hb h)⟩, by simp [intOf] <;> omega⟩
      · rw [if_pos (.inr (.inr ⟨h32, .inl rfl⟩))] at heq
        replace heq := Lib.hid heq
        clear hm h35 h32
        go_wp2_with fail
        refine (sidx_any sepB b).mono ?_
        rintro e w6 ⟨rfl, hw6⟩
        rw [hw6]
        clear hw6
        go_wp2_with ((with_reducible show wpList _ _ _ (⟨some 64, _, _, _, _, _⟩ :: _) _ _); refine wp_app2 tyB p1 hx92.out rfl hol.out rfl (.tmp 61) (.tmp 63) rfl rfl rfl ?_; intro v2 w2 k1 k2 k3)
        refine ⟨⟨k + 1, by omega, by go_num, by rw [heq.out]; exact k1, p2.trans k3 p3.size, p3.then_ k2 (fun b hb h => p2.sub hb h)⟩, by simp [intOf] <;> omega⟩
    rw [dfalse h32] at hq4
    rw [if_neg (by rintro (h | ⟨h, _⟩ | ⟨h, _⟩); exact hm h; exact h35 h; exact h32 h)] at heq
    replace heq := Lib.hid heq
    clear hm h35 h32
    go_wp2_with fail
    refine (sidx_any sepB b).mono ?_
    rintro e w6 ⟨rfl, hw6⟩
    rw [hw6]
    clear hw6
    go_wp2_with ((with_reducible show wpList _ _ _ (⟨some 27, _, _, _, _, _⟩ :: _) _ _); refine wp_app1 tyB p1 rfl hol1.out rfl (.tmp 24) (.tmp 26) rfl rfl rfl ?_; intro v2 w2 k1 k2 k3)
    refine ⟨⟨k + 1, by omega, by go_num, by rw [heq.out]; exact k1, p2.trans k3 p3.size, p3.then_ k2 (fun b hb h => p2.sub hb h)⟩, by simp [intOf] <;> omega⟩
end Go.Proofs.Ytacmbomnjedbeaa
