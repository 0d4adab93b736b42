/- block: Size, how far two keys are alike; cells that are equal; what the law looks at. -/
import Derived.Test.YtlfooppmdgddkaaCelA
import Derived.Laws.StructEq
namespace Go.Proofs.Ytlfooppmdgddkaa
open Go.RowKit
set_option maxRecDepth 100000

theorem beq_lit (c x : UInt8) : ((c.toNat : Int) == (x.toNat : Int)) = decide (c = x) := by
  rw [Bool.eq_iff_iff, beq_iff_eq, decide_eq_true_eq, ← UInt8.toNat_inj]; omega
theorem eqInC (w : World) (a b : Ce) : (Op.equalIn 10000 23 (.agg (car a)) (.agg (car b))).run Try.prog w = .ok (decide (a = b)) w := by
  rw [run_equalIn_agg w 9999 23 _ _ (by kernel_rfl) (by kernel_rfl)]
  simp only [Program.fieldsOf, Try.underlying23]
  obtain ⟨a1, a2, a3, a4⟩ := a
  obtain ⟨b1, b2, b3, b4⟩ := b
  have hd : decide ((⟨a1, a2, a3, a4⟩ : Ce) = ⟨b1, b2, b3, b4⟩) = (decide (a1 = b1) && (decide (a2 = b2) && (decide (a3 = b3) && decide (a4 = b4)))) := by
    rw [Bool.eq_iff_iff]; simp
  rw [hd]
  by_cases h1 : a1 = b1 <;> by_cases h2 : a2 = b2 <;> by_cases h3 : a3 = b3 <;> by_cases h4 : a4 = b4 <;>
    simp [Op.eqFields, part, go_sem, run_equalIn_string w _ 9 _ _ Try.underlying9, run_equalIn_bool' w _ 4 _ _ Try.underlying4, run_equalIn_int w _ 3 .i64 .i64 _ _ Try.underlying3, h1, h2, h3, h4]
theorem eqC (w : World) (a b : Ce) : (binOp .eql 23 (.agg (car a)) (.agg (car b))).run Try.prog w = .ok (.bool (decide (a = b))) w := by
  rw [run_eql_struct, eqInC]; rfl
theorem neqC (w : World) (a b : Ce) : (binOp .neq 23 (.agg (car a)) (.agg (car b))).run Try.prog w = .ok (.bool (!decide (a = b))) w := by
  rw [run_neq_struct, eqInC]; rfl
theorem guardC (w : World) (op : BinOp) (x y : Operand) (xs ys : Array Value) : (eqGuard op 23 x y (.agg xs) (.agg ys)).run Try.prog w = .ok () w :=
  run_eqGuard_agg w op _ x y xs ys (by kernel_rfl)

/-- How many bytes two texts have in common, from the first on. -/
def comm : List UInt8 → List UInt8 → Nat
  | a :: x, b :: y => if a = b then comm x y + 1 else 0
  | _, _ => 0
theorem comm_stop : ∀ {a b : List UInt8} {k : Nat}, k ≤ a.length → k ≤ b.length → a.take k = b.take k → (k = a.length ∨ k = b.length ∨ ∃ (h1 : k < a.length) (h2 : k < b.length), a[k] ≠ b[k]) → comm a b = k
  | [], b, k, h, _, _, _ => by
    obtain rfl : k = 0 := Nat.le_zero.1 h
    cases b <;> rfl
  | a :: x, [], k, _, h, _, _ => by
    obtain rfl : k = 0 := Nat.le_zero.1 h
    rfl
  | a :: x, b :: y, 0, _, _, _, h => by
    rcases h with h | h | ⟨h1, h2, h⟩
    · cases h
    · cases h
    · show (if a = b then comm x y + 1 else 0) = 0
      have h' : a ≠ b := h
      rw [if_neg h']
  | a :: x, b :: y, k + 1, h1, h2, ht, h => by
    rw [List.take_succ_cons, List.take_succ_cons] at ht
    injection ht with hab ht
    show (if a = b then comm x y + 1 else 0) = k + 1
    rw [if_pos hab, comm_stop (k := k) (Nat.le_of_succ_le_succ h1) (Nat.le_of_succ_le_succ h2) ht]
    rcases h with h | h | ⟨g1, g2, h⟩
    · exact .inl (Nat.succ.inj h)
    · exact .inr (.inl (Nat.succ.inj h))
    · exact .inr (.inr ⟨Nat.lt_of_succ_lt_succ g1, Nat.lt_of_succ_lt_succ g2, h⟩)
theorem comm_le : ∀ (a b : List UInt8), comm a b ≤ a.length ∧ comm a b ≤ b.length
  | [], b => by cases b <;> exact ⟨Nat.le_refl _, Nat.zero_le _⟩
  | a :: x, [] => ⟨Nat.zero_le _, Nat.le_refl _⟩
  | a :: x, b :: y => by
    show (if a = b then comm x y + 1 else 0) ≤ _ ∧ (if a = b then comm x y + 1 else 0) ≤ _
    have := comm_le x y
    split
    · exact ⟨Nat.succ_le_succ this.1, Nat.succ_le_succ this.2⟩
    · exact ⟨Nat.zero_le _, Nat.zero_le _⟩

set_option maxHeartbeats 4000000 in
theorem alike_any {w : World} (a b : List UInt8) (ha : a.length ≤ 140737488351232) (hb : b.length ≤ 140737488351232) :
    Calls Try.prog 90 #[sv a, sv b] w fun e w' => e = .returned (.int .i64 (comm a b : Nat)) ∧ Ext w w' := by
  have hza := sv_size a
  have hzb := sv_size b
  go_enter Try.func90, Try.ntmps90
  go_wp2_with fail
  go_loopw [5] (fun i wr => ∃ k : Nat, k ≤ a.length ∧ k ≤ b.length ∧ i = .int .i64 k ∧ Hid (a.take k = b.take k) ∧ Ext w wr) (fun i _ => a.length - (intOf i).toNat)
  case atStart => exact ⟨0, Nat.zero_le _, Nat.zero_le _, rfl, Lib.hid (by simp), Mod.refl _ _⟩
  case round =>
    obtain ⟨k, hka, hkb, rfl, ht, hx⟩ := hrel
    have hi0 : (0 : Int) ≤ (k : Int) := by omega
    by_cases h1 : k < a.length
    case neg =>
      have q1 : decide ((k : Int) < (a.length : Int)) = false := dfalse (by omega)
      have hE : Hid (comm a b = k) := Lib.hid (comm_stop hka hkb ht.out (.inl (by omega)))
      go_wp2_with fail
      go_quiet (fail)
      go_wp2_with fail
      go_ret
      exact ⟨by rw [hE.out]; rfl, hx.drewN _⟩
    have q1 : decide ((k : Int) < (a.length : Int)) = true := dtrue (by omega)
    by_cases h2 : k < b.length
    case neg =>
      have q2 : decide ((k : Int) < (b.length : Int)) = false := dfalse (by omega)
      have hE : Hid (comm a b = k) := Lib.hid (comm_stop hka hkb ht.out (.inr (.inl (by omega))))
      go_wp2_with fail
      go_quiet (fail)
      go_wp2_with fail
      go_ret
      exact ⟨by rw [hE.out]; rfl, hx.drewN _⟩
    have q2 : decide ((k : Int) < (b.length : Int)) = true := dtrue (by omega)
    have hi1 : (k : Int) < (a.length : Int) := by omega
    have hi2 : (k : Int) < (b.length : Int) := by omega
    obtain ⟨c, hc⟩ : ∃ c, c = a[k] := ⟨_, rfl⟩
    obtain ⟨d, hd⟩ : ∃ d, d = b[k] := ⟨_, rfl⟩
    have hg : ∀ h', (⟨a.toArray⟩ : ByteArray)[k]'h' = c := fun h' => (sv_get a k h1 h').trans hc.symm
    have hg2 : ∀ h', (⟨b.toArray⟩ : ByteArray)[k]'h' = d := fun h' => (sv_get b k h2 h').trans hd.symm
    have hq : ((c.toNat : Int) == (d.toNat : Int)) = decide (c = d) := beq_lit c d
    by_cases hcd : c = d
    · rw [dtrue hcd] at hq
      have ht2 := Lib.hid (take_next h1 h2 ht.out (by rw [← hc, ← hd]; exact hcd))
      clear hc hd hcd ht
      go_wp2_with fail
      go_quiet (fail)
      go_wp2_with fail
      exact ⟨⟨k + 1, by omega, by omega, by go_num, ht2, hx.drewN _⟩, by simp [intOf] <;> omega⟩
    · rw [dfalse hcd] at hq
      have hE : Hid (comm a b = k) := Lib.hid (comm_stop hka hkb ht.out (.inr (.inr ⟨h1, h2, by rw [← hc, ← hd]; exact hcd⟩)))
      clear hcd hd hc
      go_wp2_with fail
      go_quiet (fail)
      go_wp2_with fail
      go_ret
      exact ⟨by rw [hE.out]; rfl, hx.drewN _⟩

set_option maxHeartbeats 4000000 in
theorem common_any {w : World} (a b : List UInt8) (ha : a.length ≤ 140737488351232) (hb : b.length ≤ 140737488351232) :
    Calls Try.prog 63 #[sv a, sv b] w fun e w' => e = .returned (.int .i64 (comm a b : Nat)) ∧ Ext w w' := by
  have hza := sv_size a
  have hzb := sv_size b
  go_enter Try.func63, Try.ntmps63
  go_wp2_with fail
  go_loopw [5] (fun i wr => ∃ k : Nat, k ≤ a.length ∧ k ≤ b.length ∧ i = .int .i64 k ∧ Hid (a.take k = b.take k) ∧ Ext w wr) (fun i _ => a.length - (intOf i).toNat)
  case atStart => exact ⟨0, Nat.zero_le _, Nat.zero_le _, rfl, Lib.hid (by simp), Mod.refl _ _⟩
  case round =>
    obtain ⟨k, hka, hkb, rfl, ht, hx⟩ := hrel
    have hi0 : (0 : Int) ≤ (k : Int) := by omega
    by_cases h1 : k < a.length
    case neg =>
      have q1 : decide ((k : Int) < (a.length : Int)) = false := dfalse (by omega)
      have hE : Hid (comm a b = k) := Lib.hid (comm_stop hka hkb ht.out (.inl (by omega)))
      go_wp2_with fail
      go_quiet (fail)
      go_wp2_with fail
      go_ret
      exact ⟨by rw [hE.out]; rfl, hx.drewN _⟩
    have q1 : decide ((k : Int) < (a.length : Int)) = true := dtrue (by omega)
    by_cases h2 : k < b.length
    case neg =>
      have q2 : decide ((k : Int) < (b.length : Int)) = false := dfalse (by omega)
      have hE : Hid (comm a b = k) := Lib.hid (comm_stop hka hkb ht.out (.inr (.inl (by omega))))
      go_wp2_with fail
      go_quiet (fail)
      go_wp2_with fail
      go_ret
      exact ⟨by rw [hE.out]; rfl, hx.drewN _⟩
    have q2 : decide ((k : Int) < (b.length : Int)) = true := dtrue (by omega)
    have hi1 : (k : Int) < (a.length : Int) := by omega
    have hi2 : (k : Int) < (b.length : Int) := by omega
    obtain ⟨c, hc⟩ : ∃ c, c = a[k] := ⟨_, rfl⟩
    obtain ⟨d, hd⟩ : ∃ d, d = b[k] := ⟨_, rfl⟩
    have hg : ∀ h', (⟨a.toArray⟩ : ByteArray)[k]'h' = c := fun h' => (sv_get a k h1 h').trans hc.symm
    have hg2 : ∀ h', (⟨b.toArray⟩ : ByteArray)[k]'h' = d := fun h' => (sv_get b k h2 h').trans hd.symm
    have hq : ((c.toNat : Int) == (d.toNat : Int)) = decide (c = d) := beq_lit c d
    by_cases hcd : c = d
    · rw [dtrue hcd] at hq
      have ht2 := Lib.hid (take_next h1 h2 ht.out (by rw [← hc, ← hd]; exact hcd))
      clear hc hd hcd ht
      go_wp2_with fail
      go_quiet (fail)
      go_wp2_with fail
      exact ⟨⟨k + 1, by omega, by omega, by go_num, ht2, hx.drewN _⟩, by simp [intOf] <;> omega⟩
    · rw [dfalse hcd] at hq
      have hE : Hid (comm a b = k) := Lib.hid (comm_stop hka hkb ht.out (.inr (.inr ⟨h1, h2, by rw [← hc, ← hd]; exact hcd⟩)))
      clear hcd hd hc
      go_wp2_with fail
      go_quiet (fail)
      go_wp2_with fail
      go_ret
      exact ⟨by rw [hE.out]; rfl, hx.drewN _⟩

set_option maxHeartbeats 4000000 in
theorem size_any {w : World} (c : Ce) (hf : CFits c) :
    Calls Try.prog 24 #[.agg (car c)] w fun e w' => e = .returned (.int .i64 (c.key.length + c.val.length + 16 : Nat)) ∧ Ext w w' := by
  obtain ⟨c0, c1, _, _⟩ := boxed w c
  obtain ⟨hf1, hf2⟩ := hf
  have hx : Ext w (w.alloc (.cells (car c) 23)) := (Mod.refl _ w).alloc _
  obtain ⟨w0, hw0⟩ : ∃ w0, w0 = w.alloc (.cells (car c) 23) := ⟨_, rfl⟩
  rw [← hw0] at c0 c1 hx
  replace hw0 := Lib.hid hw0
  have hz1 := sv_size c.key
  have hz2 := sv_size c.val
  go_enter Try.func24, Try.ntmps24
  go_upto_region 1 with fail
  rw [← hw0.out]
  go_wp2_with fail
  go_ret
  exact ⟨by rw [Int.natCast_add, Int.natCast_add]; rfl, hx⟩
set_option maxHeartbeats 4000000 in
theorem rsize_any {w : World} (c : Ce) (hf : CFits c) :
    Calls Try.prog 25 #[.agg (car c)] w fun e w' => e = .returned (.int .i64 (c.key.length + c.val.length + 16 : Nat)) ∧ Ext w w' := by
  obtain ⟨c0, c1, _, _⟩ := boxed w c
  obtain ⟨hf1, hf2⟩ := hf
  have hx : Ext w (w.alloc (.cells (car c) 23)) := (Mod.refl _ w).alloc _
  obtain ⟨w0, hw0⟩ : ∃ w0, w0 = w.alloc (.cells (car c) 23) := ⟨_, rfl⟩
  rw [← hw0] at c0 c1 hx
  replace hw0 := Lib.hid hw0
  have hz1 := sv_size c.key
  have hz2 := sv_size c.val
  go_enter Try.func25, Try.ntmps25
  go_upto_region 1 with fail
  rw [← hw0.out]
  go_wp2_with fail
  go_ret
  exact ⟨by rw [Int.natCast_add, Int.natCast_add]; rfl, hx⟩

/-- How heavy cells are. -/
def wC (L : List Ce) : Nat := (L.map fun c => 1 + c.key.length + c.val.length).sum
theorem wC_cons (a : Ce) (L : List Ce) : wC (a :: L) = 1 + a.key.length + a.val.length + wC L := by simp [wC]
theorem wC_append (L M : List Ce) : wC (L ++ M) = wC L + wC M := by simp [wC]
theorem wC_snoc (L : List Ce) {k : Nat} (h : k < L.length) : wC (L.take (k + 1)) = wC (L.take k) + (1 + L[k].key.length + L[k].val.length) := by
  rw [List.take_succ_eq_append_getElem h, wC_append, wC_cons]; simp [wC]
theorem wC_take (L : List Ce) (k : Nat) : wC (L.take k) ≤ wC L := by
  have := wC_append (L.take k) (L.drop k)
  rw [List.take_append_drop] at this; omega
theorem wC_len (L : List Ce) : L.length ≤ wC L := by
  induction L with
  | nil => simp
  | cons a L ih => rw [wC_cons, List.length_cons]; omega
theorem wC_mem {L : List Ce} {a : Ce} (h : a ∈ L) : 1 + a.key.length + a.val.length ≤ wC L := by
  induction L with
  | nil => cases h
  | cons b L ih =>
    rw [wC_cons]
    rcases List.mem_cons.1 h with rfl | h
    · omega
    · have := ih h; omega
def LFits (L : List Ce) : Prop := (∀ c ∈ L, CFits c) ∧ L.length * 48 ≤ 140737488351232
theorem LFits.at_ {L : List Ce} (h : LFits L) {k : Nat} (hk : k < L.length) : L[k].key.length ≤ 140737488351232 ∧ L[k].val.length ≤ 140737488351232 := h.1 _ (List.getElem_mem _)
theorem lfits_of {L : List Ce} (h : wC L ≤ 1000000000) : LFits L := ⟨fun c hc => by have := wC_mem hc; exact ⟨by omega, by omega⟩, by have := wC_len L; omega⟩

set_option maxHeartbeats 4000000 in
theorem heavy7_any {w : World} {S : Nat → Prop} {v : Value} {L : List Ce} (h : Cs w S v L) (hf : LFits L) :
    Calls Try.prog 27 #[v] w fun e w' => ∃ q : Bool, e = .returned (.bool q) ∧ (q = false → wC L ≤ 6000 ∧ L.length ≤ 201) ∧ Ext w w' := by
  have hl := hf.2
  obtain ⟨A, c, rfl, h1, h2, h3, h4⟩ := h.open_ cel_len
  go_enter Try.func27, Try.ntmps27
  go_wp2_with fail
  go_loopw [3, 4] (fun n i wr => ∃ k : Nat, k ≤ L.length ∧ i = .int .i64 k ∧ n = .int .i64 (wC (L.take k) : Nat) ∧ Hid (wC (L.take k) ≤ 6000 ∧ k ≤ 201) ∧ Ext w wr) (fun _ i _ => L.length - (intOf i).toNat)
  case atStart => exact ⟨0, by omega, rfl, rfl, Lib.hid (by simp [wC]), Mod.refl _ _⟩
  case round =>
    obtain ⟨k, hk, rfl, rfl, hw0, hxr⟩ := hrel
    by_cases hlt : k < L.length
    · have hbl : decide ((k : Int) < (L.length : Int)) = true := dtrue (by omega)
      obtain ⟨ad, hA, hS, c0, c1, _, _⟩ := Cs.at_ (h4.ext hxr) hlt
      subst hA
      obtain ⟨k1, k2⟩ := hf.at_ hlt
      have hsn := wC_snoc L hlt
      obtain ⟨hw, hk2⟩ := hw0.out
      have hi0 : (0 : Int) ≤ (k : Int) := by omega
      have hi1 : (k : Int) < (L.length : Int) := by omega
      generalize L[k] = x at *
      generalize wC (L.take k) = n at *
      have hz1 := sv_size x.key
      have hz2 := sv_size x.val
      have hdw : ∀ m, Ext w (wr.drewN m) := fun m => hxr.drewN m
      by_cases hgt : 6000 < n + 1 + x.key.length + x.val.length
      · have hbg : decide ((6000 : Int) < (n : Int) + 1 + (x.key.length : Int) + (x.val.length : Int)) = true := dtrue (by omega)
        go_wp2_with fail
        go_quiet (fail)
        go_wp2_with fail
        go_ret
        exact ⟨true, rfl, by simp, hdw _⟩
      · have hbg : decide ((6000 : Int) < (n : Int) + 1 + (x.key.length : Int) + (x.val.length : Int)) = false := dfalse (by omega)
        by_cases hk3 : 200 < k
        · have hbk : decide ((200 : Int) < (k : Int)) = true := dtrue (by omega)
          replace hsn := Lib.hid hsn
          go_wp2_with fail
          go_quiet (fail)
          go_wp2_with fail
          go_ret
          exact ⟨true, rfl, by simp, hdw _⟩
        · have hbk : decide ((200 : Int) < (k : Int)) = false := dfalse (by omega)
          replace hsn := Lib.hid hsn
          go_wp2_with fail
          go_quiet (fail)
          go_wp2_with fail
          exact ⟨⟨k + 1, by omega, by go_num, by rw [hsn.out]; congr 1; omega, Lib.hid (by rw [hsn.out]; omega), hdw _⟩, by simp [intOf] <;> omega⟩
    · have hbl : decide ((k : Int) < (L.length : Int)) = false := dfalse (by omega)
      have hw2 : wC L ≤ 6000 ∧ L.length ≤ 201 := by
        have := hw0.out
        rw [List.take_of_length_le (by omega)] at this
        exact ⟨this.1, by omega⟩
      replace hw2 := Lib.hid hw2
      go_wp2_with fail
      go_ret
      exact ⟨false, rfl, fun _ => hw2.out, hxr⟩

set_option maxHeartbeats 4000000 in
theorem cells7_free {w : World} {S S' : Nat → Prop} {v v' : Value} {L M : List Ce} (h : Cs w S v L) (h' : Cs w S' v' M) :
    Calls Try.prog 34 #[v, v'] w fun e w' => e = .returned (.bool (decide (L = M))) ∧ Ext w w' := by
  obtain ⟨A, c, rfl, h1, h2, h3, h4⟩ := h.open_ cel_len
  obtain ⟨B, d, rfl, j1, j2, j3, j4⟩ := h'.open_ cel_len
  by_cases hl : L.length = M.length
  case neg =>
    have hb : ((L.length : Int) != (M.length : Int)) = true := by rw [bne_iff_ne]; omega
    go_enter Try.func34, Try.ntmps34
    go_wp2_with fail
    go_ret
    exact ⟨by rw [dfalse (fun h => hl (by rw [h]))]; rfl, Mod.refl _ _⟩
  have hb : ((L.length : Int) != (M.length : Int)) = false := by rw [bne_eq_false_iff_eq]; omega
  replace hl := Lib.hid hl
  go_enter Try.func34, Try.ntmps34
  go_wp2_with fail
  go_loopw [5] (fun i wr => ∃ k : Nat, k ≤ L.length ∧ i = .int .i64 k ∧ Hid (L.take k = M.take k) ∧ Ext w wr) (fun i _ => L.length - (intOf i).toNat)
  case atStart => exact ⟨0, Nat.zero_le _, rfl, Lib.hid (by simp), Mod.refl _ _⟩
  case round =>
    obtain ⟨k, hk, rfl, hs, q3⟩ := hrel
    by_cases hlt : k < L.length
    case neg =>
      have hbl : decide ((k : Int) < (L.length : Int)) = false := dfalse (by omega)
      have hres : L = M := by
        have := hs.out
        rwa [List.take_of_length_le (by omega), List.take_of_length_le (by have := hl.out; omega)] at this
      replace hres := Lib.hid hres
      go_wp2_with fail
      go_ret
      exact ⟨by rw [dtrue hres.out]; rfl, q3⟩
    have hbl : decide ((k : Int) < (L.length : Int)) = true := dtrue (by omega)
    have hlm : k < M.length := by have := hl.out; omega
    obtain ⟨ad, hA, hS, c0, c1, c2, c3⟩ := Cs.at_ (h4.ext q3) hlt
    subst hA
    obtain ⟨bd, hB, hT, d0, d1, d2, d3⟩ := Cs.at_ (j4.ext q3) hlm
    subst hB
    have hsn : L.take (k + 1) = M.take (k + 1) ↔ L[k] = M[k] := by
      rw [List.take_succ_eq_append_getElem hlt, List.take_succ_eq_append_getElem hlm, hs.out]
      exact ⟨fun h => List.singleton_inj.1 (List.append_cancel_left h), fun h => by rw [h]⟩
    have hno : L[k] ≠ M[k] → L ≠ M := fun hn he => hn (by subst he; rfl)
    have hi0 : (0 : Int) ≤ (k : Int) := by omega
    have hi1 : (k : Int) < (L.length : Int) := by omega
    have hi2 : (k : Int) < (M.length : Int) := by omega
    generalize L[k] = x at *
    generalize M[k] = y at *
    have hgu := fun wx a b => guardC wx .neq a b (car x) (car y)
    have hdw : ∀ m, Ext w (wr.drewN m) := fun m => q3.drewN m
    by_cases hxy : x = y
    · have hs2 := Lib.hid (hsn.2 hxy)
      have hne : ∀ wx, (binOp .neq 23 (.agg (car x)) (.agg (car y))).run Try.prog wx = .ok (.bool false) wx := fun wx => by rw [neqC, dtrue hxy]; rfl
      clear hsn hno hxy
      go_wp2_with fail
      go_quiet (fail)
      go_wp2_with fail
      exact ⟨⟨k + 1, by omega, by go_num, hs2, hdw _⟩, by simp [intOf] <;> omega⟩
    · have hne : ∀ wx, (binOp .neq 23 (.agg (car x)) (.agg (car y))).run Try.prog wx = .ok (.bool true) wx := fun wx => by rw [neqC, dfalse hxy]; rfl
      have hno2 := Lib.hid (hno hxy)
      clear hsn hno hxy
      go_wp2_with fail
      go_quiet (fail)
      go_wp2_with fail
      go_ret
      exact ⟨by rw [dfalse hno2.out]; rfl, hdw _⟩
theorem cells7_any {w : World} {S S' : Nat → Prop} {v v' : Value} {L M : List Ce} (h : Cs w S v L) (h' : Cs w S' v' M) (hf : L.length * 48 ≤ 140737488351232) :
    Calls Try.prog 34 #[v, v'] w fun e w' => e = .returned (.bool (decide (L = M))) ∧ Ext w w' := cells7_free h h'
end Go.Proofs.Ytlfooppmdgddkaa
