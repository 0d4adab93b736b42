/- dn: printValue. -/
import Derived.Test.YtacmbomnjedbeaaDnPF
import Derived.Test.YtacmbomnjedbeaaAppS
import Derived.Test.YtacmbomnjedbeaaDnI
namespace Go.Proofs.Ytacmbomnjedbeaa
open Go.RowKit
set_option maxRecDepth 100000

def hexB (n : Nat) : UInt8 := [48, 49, 50, 51, 52, 53, 54, 55, 56, 57, 97, 98, 99, 100, 101, 102].getD n 0
/-- A byte of a value as it is printed. -/
def strokeB (b : UInt8) (f l : Bool) : List UInt8 :=
  if b.toNat < 32 ∨ 126 < b.toNat then [92, hexB (b.toNat / 16), hexB (b.toNat % 16)]
  else if b ∈ sepB ∨ (b = 35 ∧ f = true) ∨ (b = 32 ∧ (f = true ∨ l = true)) then [92, b] else [b]
def pvTo (s : List UInt8) (k : Nat) : List UInt8 := (List.range k).flatMap fun i => strokeB (s.getD i 0) (i == 0) (i + 1 == s.length)
/-- A value as it is printed. -/
def pvB (s : List UInt8) : List UInt8 := pvTo s s.length
theorem pvTo_snoc (s : List UInt8) {k : Nat} (h : k < s.length) : pvTo s (k + 1) = pvTo s k ++ strokeB s[k] (k == 0) (k + 1 == s.length) := by
  unfold pvTo
  rw [List.range_succ, List.flatMap_append, List.flatMap_cons, List.flatMap_nil, List.append_nil, getD_at s h]
theorem strokeB_len (b : UInt8) (f l : Bool) : (strokeB b f l).length ≤ 3 := by
  unfold strokeB
  split
  · simp
  · split <;> simp
theorem pvTo_len (s : List UInt8) (k : Nat) : (pvTo s k).length ≤ 3 * k := by
  unfold pvTo
  induction k with
  | zero => simp
  | succ k ih =>
    rw [List.range_succ, List.flatMap_append, List.length_append, List.flatMap_cons, List.flatMap_nil, List.append_nil]
    have := strokeB_len (s.getD k 0) (k == 0) (k + 1 == s.length)
    omega
def Plain (s : List UInt8) : Prop := ∀ b ∈ s, 32 ≤ b.toNat ∧ b.toNat ≤ 126

set_option maxHeartbeats 8000000 in
theorem printValue_any {w : World} {v : Value} {l s : List UInt8} (h : Own w 5 v (l.map bv)) (hn : l.length + 3 * s.length ≤ 100000000) (hp : Plain s) :
    Calls Try.prog 85 #[v, sv s] w fun e w' => ∃ v', e = .returned v' ∧ Own w' 5 v' ((l ++ pvB s).map bv) ∧ Next w.heap.size v v' ∧ Mod (own v) w w' := by
  have hsz := sv_size s
  go_enter Try.func85, Try.ntmps85
  go_wp2_with fail
  go_loopw [0, 11] (fun vo i wr => ∃ k : Nat, k ≤ s.length ∧ i = .int .i64 k ∧ Own wr 5 vo ((l ++ pvTo s k).map bv) ∧ Next w.heap.size v vo ∧ Mod (own v) w wr) (fun _ i _ => s.length - (intOf i).toNat)
  case atStart => exact ⟨0, Nat.zero_le _, rfl, by simpa [pvTo] using h, Next.refl _ _, Mod.refl _ _⟩
  case round =>
    obtain ⟨k, hk, rfl, p1, p2, p3⟩ := hrel
    by_cases hlt : k < s.length
    case neg =>
      have hbl : decide ((k : Int) < (s.length : Int)) = false := dfalse (by omega)
      obtain rfl : k = s.length := by omega
      go_wp2_with fail
      go_ret
      exact ⟨_, rfl, p1, p2, p3⟩
    have hbl : decide ((k : Int) < (s.length : Int)) = true := dtrue (by omega)
    obtain ⟨b, hbk⟩ : ∃ b, b = s[k] := ⟨_, rfl⟩
    have hg : ∀ h', (⟨s.toArray⟩ : ByteArray)[k]'h' = b := fun h' => (sv_get s k hlt h').trans hbk.symm
    have hpb := hp b (by rw [hbk]; exact List.getElem_mem _)
    have hsn := pvTo_snoc s hlt
    rw [← hbk] at hsn
    have hel := pvTo_len s k
    have hol : (l ++ pvTo s k).length + 2 ≤ 140737488355328 := by rw [List.length_append]; omega
    have heq : l ++ pvTo s (k + 1) = (l ++ pvTo s k) ++ strokeB b (k == 0) (k + 1 == s.length) := by rw [hsn, List.append_assoc]
    clear hsn hel hbk
    generalize l ++ pvTo s k = o at *
    have hb1 : decide ((b.toNat : Int) < 32) = false := dfalse (by omega)
    have hb2 : decide ((126 : Int) < (b.toNat : Int)) = false := dfalse (by omega)
    have hol1 := Lib.hid (show o.length + 1 ≤ 140737488355328 by omega)
    replace hol := Lib.hid hol
    have hx92 := Lib.hid (show (92 : Int) = ((92 : UInt8).toNat : Int) from rfl)
    have hq1 : ((k : Int) == 0) = (k == 0) := by rw [Bool.eq_iff_iff, beq_iff_eq, beq_iff_eq]; omega
    have hq2 : ((k : Int) == (s.length : Int) - 1) = (k + 1 == s.length) := by rw [Bool.eq_iff_iff, beq_iff_eq, beq_iff_eq]; omega
    have hq3 : ((b.toNat : Int) == 35) = decide (b = 35) := by
      rw [Bool.eq_iff_iff, beq_iff_eq, decide_eq_true_eq, ← UInt8.toNat_inj, show (35 : UInt8).toNat = 35 from rfl]; omega
    have hq4 : ((b.toNat : Int) == 32) = decide (b = 32) := by
      rw [Bool.eq_iff_iff, beq_iff_eq, decide_eq_true_eq, ← UInt8.toNat_inj, show (32 : UInt8).toNat = 32 from rfl]; omega
    have hix := idx_mem sepB b
    have hno : ¬ (b.toNat < 32 ∨ 126 < b.toNat) := by omega
    unfold strokeB at heq
    rw [if_neg hno] at heq
    clear hno hpb
    generalize (k == 0) = f at *
    generalize (k + 1 == s.length) = g at *
    obtain ⟨A, cc, rfl⟩ := p1.shape
    rw [List.length_map] at p1 p2
    have hi0 : (0 : Int) ≤ (k : Int) := by omega
    have hi1 : (k : Int) < (s.length : Int) := by omega
    by_cases hm : b ∈ sepB
    · rw [decide_eq_true hm] at hix
      rw [if_pos (.inl hm)] at heq
      replace heq := Lib.hid heq
      clear hq3 hq4 hm
      go_wp2_with fail
      refine (sidx_any sepB b).mono ?_
      rintro e w6 ⟨rfl, hw6⟩
      rw [hw6]
      clear hw6
      go_wp2_with ((with_reducible show wpList _ _ _ (⟨some 64, _, _, _, _, _⟩ :: _) _ _); refine wp_app2 tyB p1 hx92.out rfl hol.out rfl (.tmp 61) (.tmp 63) rfl rfl rfl ?_; intro v2 w2 k1 k2 k3)
      refine ⟨⟨k + 1, by omega, by go_num, by rw [heq.out]; exact k1, p2.trans k3 p3.size, p3.then_ k2 (fun b hb h => p2.sub hb h)⟩, by simp [intOf] <;> omega⟩
    rw [decide_eq_false hm] at hix
    by_cases h35 : b = 35
    · rw [dtrue h35] at hq3
      have hq4' : ((b.toNat : Int) == 32) = false := by rw [h35]; rfl
      cases f
      · rw [if_neg (by rintro (h | ⟨_, h⟩ | ⟨h, _⟩); exact hm h; cases h; rw [h35] at h; cases h)] at heq
        replace heq := Lib.hid heq
        clear hq4 hm h35
        go_wp2_with fail
        refine (sidx_any sepB b).mono ?_
        rintro e w6 ⟨rfl, hw6⟩
        rw [hw6]
        clear hw6
        go_wp2_with ((with_reducible show wpList _ _ _ (⟨some 27, _, _, _, _, _⟩ :: _) _ _); refine wp_app1 tyB p1 rfl hol1.out rfl (.tmp 24) (.tmp 26) rfl rfl rfl ?_; intro v2 w2 k1 k2 k3)
        refine ⟨⟨k + 1, by omega, by go_num, by rw [heq.out]; exact k1, p2.trans k3 p3.size, p3.then_ k2 (fun b hb h => p2.sub hb h)⟩, by simp [intOf] <;> omega⟩
      · rw [if_pos (.inr (.inl ⟨h35, rfl⟩))] at heq
        replace heq := Lib.hid heq
        clear hq4 hm h35
        go_wp2_with fail
        refine (sidx_any sepB b).mono ?_
        rintro e w6 ⟨rfl, hw6⟩
        rw [hw6]
        clear hw6
        go_wp2_with ((with_reducible show wpList _ _ _ (⟨some 64, _, _, _, _, _⟩ :: _) _ _); refine wp_app2 tyB p1 hx92.out rfl hol.out rfl (.tmp 61) (.tmp 63) rfl rfl rfl ?_; intro v2 w2 k1 k2 k3)
        refine ⟨⟨k + 1, by omega, by go_num, by rw [heq.out]; exact k1, p2.trans k3 p3.size, p3.then_ k2 (fun b hb h => p2.sub hb h)⟩, by simp [intOf] <;> omega⟩
    rw [dfalse h35] at hq3
    by_cases h32 : b = 32
    · rw [dtrue h32] at hq4
      cases f
      · cases g
        · rw [if_neg (by rintro (h | ⟨h, _⟩ | ⟨_, h | h⟩); exact hm h; exact h35 h; cases h; cases h)] at heq
          replace heq := Lib.hid heq
          clear hm h35 h32
          go_wp2_with fail
          refine (sidx_any sepB b).mono ?_
          rintro e w6 ⟨rfl, hw6⟩
          rw [hw6]
          clear hw6
          go_wp2_with ((with_reducible show wpList _ _ _ (⟨some 27, _, _, _, _, _⟩ :: _) _ _); refine wp_app1 tyB p1 rfl hol1.out rfl (.tmp 24) (.tmp 26) rfl rfl rfl ?_; intro v2 w2 k1 k2 k3)
          refine ⟨⟨k + 1, by omega, by go_num, by rw [heq.out]; exact k1, p2.trans k3 p3.size, p3.then_ k2 (fun b hb h => p2.sub hb h)⟩, by simp [intOf] <;> omega⟩
        · rw [if_pos (.inr (.inr ⟨h32, .inr rfl⟩))] at heq
          replace heq := Lib.hid heq
          clear hm h35 h32
          go_wp2_with fail
          refine (sidx_any sepB b).mono ?_
          rintro e w6 ⟨rfl, hw6⟩
          rw [hw6]
          clear hw6
          go_wp2_with ((with_reducible show wpList _ _ _ (⟨some 64, _, _, _, _, _⟩ :: _) _ _); refine wp_app2 tyB p1 hx92.out rfl hol.out rfl (.tmp 61) (.tmp 63) rfl rfl rfl ?_; intro v2 w2 k1 k2 k3)
          refine ⟨⟨k + 1, by omega, by go_num, by rw [heq.out]; exact k1, p2.trans k3 p3.size, p3.then_ k2 (fun b hb h => p2.sub hb h)⟩, by simp [intOf] <;> omega⟩
      · rw [if_pos (.inr (.inr ⟨h32, .inl rfl⟩))] at heq
        replace heq := Lib.hid heq
        clear hm h35 h32
        go_wp2_with fail
        refine (sidx_any sepB b).mono ?_
        rintro e w6 ⟨rfl, hw6⟩
        rw [hw6]
        clear hw6
        go_wp2_with ((with_reducible show wpList _ _ _ (⟨some 64, _, _, _, _, _⟩ :: _) _ _); refine wp_app2 tyB p1 hx92.out rfl hol.out rfl (.tmp 61) (.tmp 63) rfl rfl rfl ?_; intro v2 w2 k1 k2 k3)
        refine ⟨⟨k + 1, by omega, by go_num, by rw [heq.out]; exact k1, p2.trans k3 p3.size, p3.then_ k2 (fun b hb h => p2.sub hb h)⟩, by simp [intOf] <;> omega⟩
    rw [dfalse h32] at hq4
    rw [if_neg (by rintro (h | ⟨h, _⟩ | ⟨h, _⟩); exact hm h; exact h35 h; exact h32 h)] at heq
    replace heq := Lib.hid heq
    clear hm h35 h32
    go_wp2_with fail
    refine (sidx_any sepB b).mono ?_
    rintro e w6 ⟨rfl, hw6⟩
    rw [hw6]
    clear hw6
    go_wp2_with ((with_reducible show wpList _ _ _ (⟨some 27, _, _, _, _, _⟩ :: _) _ _); refine wp_app1 tyB p1 rfl hol1.out rfl (.tmp 24) (.tmp 26) rfl rfl rfl ?_; intro v2 w2 k1 k2 k3)
    refine ⟨⟨k + 1, by omega, by go_num, by rw [heq.out]; exact k1, p2.trans k3 p3.size, p3.then_ k2 (fun b hb h => p2.sub hb h)⟩, by simp [intOf] <;> omega⟩
end Go.Proofs.Ytacmbomnjedbeaa
namespace Go.Proofs.Ytacmbomnjedbeaa
open Go.RowKit
set_option maxRecDepth 100000

def partP (a : Av) : List UInt8 := a.1 ++ [61] ++ pvB a.2
/-- A name as a text. -/
def printB : List Av → List UInt8
  | [] => []
  | a :: L => partP a ++ L.flatMap fun b => 44 :: partP b
theorem printB_snoc (L : List Av) (a : Av) : printB (L ++ [a]) = printB L ++ (if L = [] then [] else [44]) ++ partP a := by
  cases L with
  | nil => simp [printB]
  | cons b L => simp [printB]
theorem pvB_len (s : List UInt8) : (pvB s).length ≤ 3 * s.length := pvTo_len s s.length
theorem printB_len (L : List Av) : (printB L).length ≤ 4 * wN L := by
  cases L with
  | nil => simp [printB]
  | cons a L =>
    have h : (L.flatMap fun b => 44 :: partP b).length ≤ 4 * wN L := by
      induction L with
      | nil => simp
      | cons b L ih =>
        rw [List.flatMap_cons, List.length_append, wN_cons]
        have := pvB_len b.2
        have e : (44 :: partP b).length = b.1.length + 2 + (pvB b.2).length := by simp [partP]; omega
        omega
    have := pvB_len a.2
    have e : (partP a).length = a.1.length + 1 + (pvB a.2).length := by simp [partP]; omega
    rw [printB, List.length_append, wN_cons]; omega

set_option maxHeartbeats 8000000 in
theorem print_any {w : World} {S : Nat → Prop} {v : Value} {L : List Av} (h : As w S v L) (hw : wN L ≤ 100000) (hp : ∀ a ∈ L, Plain a.2) :
    Calls Try.prog 61 #[v] w fun e w' => e = .returned (sv (printB L)) ∧ Ext w w' := by
  have hlw := wN_len L
  obtain ⟨A, c, rfl, h1, h2, h3, h4⟩ := h.open_ avc_len
  go_enter Try.func61, Try.ntmps61
  go_wp2_with fail
  go_loopw [3, 8] (fun vo i wr => ∃ k : Nat, k ≤ L.length ∧ i = .int .i64 k ∧ Own wr 5 vo ((printB (L.take k)).map bv) ∧ Fresh w.heap.size vo ∧ Ext w wr) (fun _ i _ => L.length - (intOf i).toNat)
  case atStart => exact ⟨0, Nat.zero_le _, rfl, Own.nil _ _, fresh_nil _ _ _, Mod.refl _ _⟩
  case round =>
    obtain ⟨k, hk, rfl, q1, q2, q3⟩ := hrel
    by_cases hlt : k < L.length
    case neg =>
      have hbl : decide ((k : Int) < (L.length : Int)) = false := dfalse (by omega)
      rw [List.take_of_length_le (by omega)] at q1
      have hcv := run_conv (P := Try.prog) Try.underlying65 Try.underlying5 Try.underlying9 q1.sl
      go_wp2_with fail
      go_ret
      exact ⟨rfl, q3⟩
    have hbl : decide ((k : Int) < (L.length : Int)) = true := dtrue (by omega)
    obtain ⟨ad, hA, hS, c0, c1⟩ := As.at_ (h4.ext q3) hlt
    subst hA
    have hsn : printB (L.take (k + 1)) = printB (L.take k) ++ (if k = 0 then [] else [44]) ++ partP L[k] := by
      rw [List.take_succ_eq_append_getElem hlt, printB_snoc]
      congr 2
      by_cases h0 : k = 0
      · subst h0; simp
      · rw [if_neg h0, if_neg (by intro h; have := congrArg List.length h; rw [List.length_take, List.length_nil] at this; omega)]
    have hol := printB_len (L.take k)
    have hwk := wN_snoc L hlt
    have hwt := wN_take L (k + 1)
    have hpx := hp _ (List.getElem_mem hlt)
    generalize L[k] = x at *
    generalize printB (L.take k) = o at *
    have hvw : x.2.length ≤ 100000 := by omega
    have htw : x.1.length ≤ 100000 := by omega
    have how : o.length ≤ 400000 := by omega
    clear hol hwk hwt
    have hx44 := Lib.hid (show (44 : Int) = ((44 : UInt8).toNat : Int) from rfl)
    have hx61 := Lib.hid (show (61 : Int) = ((61 : UInt8).toNat : Int) from rfl)
    obtain ⟨wb, hwb⟩ : ∃ wb, wb = wr.alloc (.cells #[.string ⟨x.1.toArray⟩, .string ⟨x.2.toArray⟩] 46) := ⟨_, rfl⟩
    have hB : Blk wb wr.heap.size 46 #[sv x.1, sv x.2] := by rw [hwb]; exact Blk.new wr _ _
    have hmb : Ext wr wb := by rw [hwb]; exact (Mod.refl _ wr).alloc _
    have hsb : wb.heap.size = wr.heap.size + 1 := by rw [hwb]; simp
    have hnv : ¬ own u3 wr.heap.size := fun hh => absurd (q1.lt hh) (Nat.lt_irrefl _)
    have q1b := q1.mod hmb (fun _ _ h => h)
    have hws := q3.size
    replace hwb := Lib.hid hwb
    replace hsb := Lib.hid hsb
    by_cases hk0 : k = 0
    · have hsn2 : printB (L.take (k + 1)) = o ++ x.1 ++ [61] ++ pvB x.2 := by rw [hsn, if_pos hk0, partP]; simp
      have hb0 : decide (0 < k) = false := dfalse (by omega)
      have n2 := Lib.hid (show o.length + x.1.length ≤ 140737488355328 by omega)
      have n3 := Lib.hid (show (o ++ x.1).length + 1 ≤ 140737488355328 by rw [List.length_append]; omega)
      have n4 := Lib.hid (show (o ++ x.1 ++ [61]).length + 3 * x.2.length ≤ 100000000 by simp only [List.length_append, List.length_singleton]; omega)
      replace hsn2 := Lib.hid hsn2
      clear hsn hvw htw how hk0
      obtain ⟨A3, c3, rfl⟩ := q1.shape
      rw [List.length_map] at q1 q1b q2 hnv ⊢
      go_wp2_with (first | ((with_reducible show wpList _ _ _ (⟨some 21, _, _, _, _, _⟩ :: _) _ _); rw [← hwb.out]; refine wp_appS tyB Try.underlying9 q1b n2.out rfl (.tmp 18) (.tmp 20) rfl rfl rfl ?_; intro v3 w3 g1 g2 g3; have B3 := hB.mod g2 hnv; have f3 := g3.fresh q2 (by have := hsb.out; omega); have y3 : ¬ own v3 wr.heap.size := g3.ne (by have := hsb.out; omega) hnv; have m3 : Mod (fun b => w.heap.size ≤ b) wb w3 := g2.mono (fun b _ hh => q2 b hh)) | ((with_reducible show wpList _ _ _ (⟨some 24, _, _, _, _, _⟩ :: _) _ _); refine wp_app1 tyB g1 hx61.out n3.out rfl (.tmp 22) (.tmp 23) rfl rfl rfl ?_; intro v4 w4 e1 e2 e3; have B4 := B3.mod e2 y3; have d4 : w4.cell? ⟨wr.heap.size, 1, none⟩ = some (sv x.2) := Blk.cell B4 1; have f4 := e3.fresh f3 (by have := hsb.out; have := m3.size; omega); have m4 : Mod (fun b => w.heap.size ≤ b) wb w4 := m3.then_ e2 (fun b _ hh => f3 b hh)))
      refine (printValue_any e1 n4.out hpx).mono ?_
      rintro e w5 ⟨v5, rfl, t1, t2, t3⟩
      have f5 := t2.fresh f4 (by have := hsb.out; have := m4.size; omega)
      have m5 : Mod (fun b => w.heap.size ≤ b) wb w5 := m4.then_ t3 (fun b _ hh => f4 b hh)
      go_wp2_with fail
      refine ⟨⟨k + 1, by omega, by go_num, by rw [hsn2.out]; exact t1, f5, (ext_trans q3 hmb).trans m5 (fun _ _ h => h) (fun b hb hh => by have : w.heap.size ≤ b := hh; omega)⟩, by simp [intOf] <;> omega⟩
    have hsn2 : printB (L.take (k + 1)) = o ++ [44] ++ x.1 ++ [61] ++ pvB x.2 := by rw [hsn, if_neg hk0, partP]; simp
    have hb0 : decide (0 < k) = true := dtrue (by omega)
    have n1 := Lib.hid (show o.length + 1 ≤ 140737488355328 by omega)
    have n2 := Lib.hid (show (o ++ [44]).length + x.1.length ≤ 140737488355328 by simp only [List.length_append, List.length_singleton]; omega)
    have n3 := Lib.hid (show (o ++ [44] ++ x.1).length + 1 ≤ 140737488355328 by simp only [List.length_append, List.length_singleton]; omega)
    have n4 := Lib.hid (show (o ++ [44] ++ x.1 ++ [61]).length + 3 * x.2.length ≤ 100000000 by simp only [List.length_append, List.length_singleton]; omega)
    replace hsn2 := Lib.hid hsn2
    clear hsn hvw htw how hk0
    obtain ⟨A3, c3, rfl⟩ := q1.shape
    rw [List.length_map] at q1 q1b q2 hnv ⊢
    go_wp2_with (first | ((with_reducible show wpList _ _ _ (⟨some 17, _, _, _, _, _⟩ :: _) _ _); rw [← hwb.out]; refine wp_app1 tyB q1b hx44.out n1.out rfl (.tmp 15) (.tmp 16) rfl rfl (by show Value.slice (some ⟨wr.heap.size + 1, 0, none⟩) 1 1 = _; rw [hsb.out]) ?_; intro v2 w2 k1 k2 k3; have B2 := hB.mod k2 hnv; have d2 : w2.cell? ⟨wr.heap.size, 0, none⟩ = some (sv x.1) := Blk.cell B2 0; have f2 := k3.fresh q2 (by have := hsb.out; omega); have y2 : ¬ own v2 wr.heap.size := k3.ne (by have := hsb.out; omega) hnv; have m2 : Mod (fun b => w.heap.size ≤ b) wb w2 := k2.mono (fun b _ hh => q2 b hh)) | ((with_reducible show wpList _ _ _ (⟨some 21, _, _, _, _, _⟩ :: _) _ _); refine wp_appS tyB Try.underlying9 k1 n2.out rfl (.tmp 18) (.tmp 20) rfl rfl rfl ?_; intro v3 w3 g1 g2 g3; have B3 := B2.mod g2 y2; have f3 := g3.fresh f2 (by have := hsb.out; have := m2.size; omega); have y3 : ¬ own v3 wr.heap.size := g3.ne (by have := hsb.out; have := m2.size; omega) y2; have m3 : Mod (fun b => w.heap.size ≤ b) wb w3 := m2.then_ g2 (fun b _ hh => f2 b hh)) | ((with_reducible show wpList _ _ _ (⟨some 24, _, _, _, _, _⟩ :: _) _ _); refine wp_app1 tyB g1 hx61.out n3.out rfl (.tmp 22) (.tmp 23) rfl rfl rfl ?_; intro v4 w4 e1 e2 e3; have B4 := B3.mod e2 y3; have d4 : w4.cell? ⟨wr.heap.size, 1, none⟩ = some (sv x.2) := Blk.cell B4 1; have f4 := e3.fresh f3 (by have := hsb.out; have := m3.size; omega); have m4 : Mod (fun b => w.heap.size ≤ b) wb w4 := m3.then_ e2 (fun b _ hh => f3 b hh)))
    refine (printValue_any e1 n4.out hpx).mono ?_
    rintro e w5 ⟨v5, rfl, t1, t2, t3⟩
    have f5 := t2.fresh f4 (by have := hsb.out; have := m4.size; omega)
    have m5 : Mod (fun b => w.heap.size ≤ b) wb w5 := m4.then_ t3 (fun b _ hh => f4 b hh)
    go_wp2_with fail
    refine ⟨⟨k + 1, by omega, by go_num, by rw [hsn2.out]; exact t1, f5, (ext_trans q3 hmb).trans m5 (fun _ _ h => h) (fun b hb hh => by have : w.heap.size ≤ b := hh; omega)⟩, by simp [intOf] <;> omega⟩
end Go.Proofs.Ytacmbomnjedbeaa
