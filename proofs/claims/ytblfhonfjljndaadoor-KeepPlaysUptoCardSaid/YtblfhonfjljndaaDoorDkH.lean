/- disk: what its methods ask first, and how they end. -/
import Derived.Test.YtblfhonfjljndaaDoorDkB
import Derived.RegionTactic
import Derived.Deep.Cut
import Derived.Deep.RegionHeld3
import Derived.Deep.RegionLaw
import Derived.BigRegion
import Derived.Deep.DeepCutAuto
namespace Go.Proofs.YtblfhonfjljndaaDoor
open Go.RowKit Go.Maps Go.WideMaps
set_option maxRecDepth 100000

def badN (x : List UInt8) : Bool := decide (x.length < 1 ∨ 64 < x.length)
/-- What each of the five asks first. -/
def begD (d : Ds) (L : Tx) : Nat := if d.fu = true ∧ d.left = 0 then 9 else if L.any badN then 1 else 0
def doneD (d : Ds) : Ds := { d with left := if d.fu then d.left - 1 else d.left }
abbrev ev (n : Nat) : Value := .int .i64 (n : Int)

theorem b_eq0 {n : Nat} (h : n = 0) : ((n : Int) == 0) = true := by rw [h]; rfl
theorem b_ne0 {n : Nat} (h : ¬ n = 0) : ((n : Int) == 0) = false := by rw [beq_eq_false_iff_ne]; omega

set_option maxHeartbeats 4000000 in
theorem begin_any {S T : Nat → Prop} {w : World} {bd bm : Nat} {D : DataW Unit} {G : Lay} {d : Ds} {v : Value} {L : Tx} (h : DkAt S w bd bm D G d) (hv : Ts w T v L) (hl : L.length ≤ 1000000) :
    Calls Tryd.prog 38 #[pv bd, v] w fun e w' => e = .returned (ev (begD d L)) ∧ Ext w w' := by
  have c3 : w.cell? ⟨bd, 3, none⟩ = some (.bool d.fu) := h.blk.cell 3
  have c4 : w.cell? ⟨bd, 4, none⟩ = some (.int .i64 (d.left : Int)) := h.blk.cell 4
  clear h
  have hgo : (d.fu = true ∧ d.left = 0) ∨ (d.fu = false ∨ (d.fu = true ∧ ¬ d.left = 0)) := by
    by_cases h1 : d.fu = true
    · by_cases h2 : d.left = 0
      · exact .inl ⟨h1, h2⟩
      · exact .inr (.inr ⟨h1, h2⟩)
    · exact .inr (.inl (by simpa using h1))
  rcases hgo with ⟨h1, h2⟩ | hgo
  · have hr : begD d L = 9 := by unfold begD; rw [if_pos ⟨h1, h2⟩]
    rw [hr]
    rw [h1] at c3
    have hb := b_eq0 h2
    clear h1 h2 hr
    go_enter Tryd.func38, Tryd.ntmps38
    go_wp2_with fail
    go_ret
    exact ⟨rfl, Mod.refl _ _⟩
  have hr : begD d L = if L.any badN then 1 else 0 := by
    unfold begD
    rw [if_neg]
    rintro ⟨h1, h2⟩
    rcases hgo with h | h
    · rw [h1] at h; cases h
    · exact h.2 h2
  rw [hr]
  clear hr
  obtain ⟨A, c, rfl, h1, h2, h3, h4⟩ := hv.open_
  clear hv
  obtain ⟨r, hr⟩ : ∃ r : Nat, r = if L.any badN then 1 else 0 := ⟨_, rfl⟩
  rw [← hr]
  replace hr := Lib.hid hr
  rcases hgo with hfu | ⟨hfu, hle⟩
  case' inr => have hb := b_ne0 hle; clear hle
  all_goals
    rw [hfu] at c3
    clear hfu
    go_enter Tryd.func38, Tryd.ntmps38
    go_wp2_with fail
    go_loopw [22] (fun i wr => ∃ k : Nat, k ≤ L.length ∧ i = .int .i64 k ∧ Hid ((L.take k).any badN = false) ∧ Ext w wr) (fun i _ => L.length - (intOf i).toNat)
    case atStart => exact ⟨0, Nat.zero_le _, rfl, Lib.hid rfl, Mod.refl _ _⟩
    case round =>
      obtain ⟨k, hk, rfl, hs, hx⟩ := hrel
      by_cases hlt : k < L.length
      case neg =>
        have hbl : decide ((k : Int) < (L.length : Int)) = false := dfalse (by omega)
        have he : r = 0 := by
          have := hs.out
          rw [List.take_of_length_le (by omega)] at this
          rw [hr.out, this]; rfl
        clear hs hr
        subst he
        go_wp2_with fail
        go_ret
        exact ⟨rfl, hx⟩
      have hbl : decide ((k : Int) < (L.length : Int)) = true := dtrue (by omega)
      obtain ⟨ad, hA, hS, c0⟩ := (Cells.mod h4 hx (fun _ _ _ h => h)).at_ hlt
      subst hA
      have hi0 : (0 : Int) ≤ (k : Int) := by omega
      have hi1 : (k : Int) < (L.length : Int) := by omega
      have hst : badN L[k] = false → (L.take (k + 1)).any badN = false := fun hq => by
        rw [List.take_succ_eq_append_getElem hlt, List.any_append, hs.out]
        simp [hq]
      have hst2 : badN L[k] = true → r = 1 := fun hq => by
        rw [hr.out, if_pos]
        rw [List.any_eq_true]
        exact ⟨_, List.getElem_mem _, hq⟩
      clear hs
      generalize L[k] = x at *
      have hsz := sv_size x
      by_cases h5 : x.length < 1
      · have hb1 : decide ((x.length : Int) < 1) = true := dtrue (by omega)
        have he := hst2 (by unfold badN; exact decide_eq_true (.inl h5))
        clear hst hst2 hr
        subst he
        go_wp2_with fail
        go_ret
        exact ⟨rfl, hx⟩
      have hb1 : decide ((x.length : Int) < 1) = false := dfalse (by omega)
      by_cases h6 : 64 < x.length
      · have hb2 : decide ((64 : Int) < (x.length : Int)) = true := dtrue (by omega)
        have he := hst2 (by unfold badN; exact decide_eq_true (.inr h6))
        clear hst hst2 hr
        subst he
        go_wp2_with fail
        go_ret
        exact ⟨rfl, hx⟩
      have hb2 : decide ((64 : Int) < (x.length : Int)) = false := dfalse (by omega)
      have hs := Lib.hid (hst (by unfold badN; exact decide_eq_false (by omega)))
      clear hst hst2
      go_wp2_with fail
      exact ⟨⟨k + 1, by omega, by go_num, hs, hx⟩, by simp [intOf] <;> omega⟩
end Go.Proofs.YtblfhonfjljndaaDoor
namespace Go.Proofs.YtblfhonfjljndaaDoor
open Go.RowKit Go.Maps Go.WideMaps
set_option maxRecDepth 100000

section
variable {w : World} {ops : Array Oper} {rest : List Oper} {o : Oper} {a : Act} {Q : Exit → Act → World → Prop}
theorem wp_lookS {bm n : Nat} {D : DataW Unit} {x : List UInt8} {g : Nat} (hM : w.ownsMap Tryd.prog 9 ptrElem bm n D) (hl : x.length ≤ 1000000) (hhas : has D (.string x) = true) (hat : D.atKey (.string x) .nil = .lit (.int .i64 (g : Nat)))
    (hgd : o.guard = none) (m k : Operand) (hop : o.op = Op.lookup 53 m k true) (hm : a.eval m = .map (some bm)) (hx : a.eval k = sv x)
    (h : wpList Tryd.prog ops Q rest (a.put o.dst (.tuple #[pv g, .bool true])) w) : wpList Tryd.prog ops Q (o :: rest) a w := by
  refine wpList_lookup_own_ok w hgd m k 53 hop 9 68 keyS Tryd.underlying53 ptrElem (zeroP w) .nil [] rfl bm n D hm hM _ _ hx (keyOf_sv x (by omega)) ?_
  intro v ps hv
  rw [hat] at hv
  obtain rfl := ptr_inv hv
  rw [hhas]
  exact h
theorem wp_lookN {bm n : Nat} {D : DataW Unit} {x : List UInt8} (hM : w.ownsMap Tryd.prog 9 ptrElem bm n D) (hl : x.length ≤ 1000000) (hhas : has D (.string x) = false)
    (hgd : o.guard = none) (m k : Operand) (hop : o.op = Op.lookup 53 m k true) (hm : a.eval m = .map (some bm)) (hx : a.eval k = sv x)
    (h : wpList Tryd.prog ops Q rest (a.put o.dst (.tuple #[.pointer none, .bool false])) w) : wpList Tryd.prog ops Q (o :: rest) a w := by
  refine wpList_lookup_own_ok w hgd m k 53 hop 9 68 keyS Tryd.underlying53 ptrElem (zeroP w) .nil [] rfl bm n D hm hM _ _ hx (keyOf_sv x (by omega)) ?_
  intro v ps hv
  rw [atKey_of_not_has hhas] at hv
  obtain rfl := ptr_nil hv
  rw [hhas]
  exact h
end
theorem begD_len {d : Ds} {L : Tx} (h : begD d L = 0) {x : List UInt8} (hx : x ∈ L) : 1 ≤ x.length ∧ x.length ≤ 64 := by
  unfold begD at h
  by_cases h1 : d.fu = true ∧ d.left = 0
  · rw [if_pos h1] at h; cases h
  · rw [if_neg h1] at h
    by_cases h2 : L.any badN = true
    · rw [if_pos h2] at h; cases h
    · have h3 : badN x = false := by
        have := List.any_eq_false.1 (by simpa using h2) x hx
        simpa using this
      unfold badN at h3
      simp only [decide_eq_false_iff_not] at h3
      omega
section
variable {S T : Nat → Prop} {w : World} {bd bm : Nat} {D : DataW Unit} {G : Lay} {d : Ds}
theorem one_name (w : World) (x : List UInt8) : Ts (w.alloc (.cells #[sv x] 9)) (fun k => k = w.heap.size) (.slice (some ⟨w.heap.size, 0, none⟩) 1 1) [x] := Sl.one w 9 (sv x)
set_option maxHeartbeats 4000000 in
theorem find_err (h : DkAt S w bd bm D G d) (x : List UInt8) (hb : begD d [x] ≠ 0) :
    Calls Tryd.prog 67 #[pv bd, sv x] w fun e w' => e = .returned (.tuple #[.pointer none, ev (begD d [x])]) ∧ Ext w w' := by
  have x0 : Ext w (w.alloc (.cells #[sv x] 9)) := (Mod.refl _ w).alloc _
  have hc := begin_any (h.mod x0 (fun _ _ _ h => h)) (one_name w x) (by simp)
  have hn : ((begD d [x] : Int) != 0) = true := by rw [bne_iff_ne]; omega
  clear h
  generalize begD d [x] = n at *
  go_enter Tryd.func67, Tryd.ntmps67
  go_wp2_with fail
  refine hc.mono ?_
  rintro e w1 ⟨rfl, x1⟩
  clear hc hb
  go_wp2_with fail
  go_ret2
  exact ⟨rfl, ext_trans x0 x1⟩
set_option maxHeartbeats 4000000 in
theorem find_none (h : DkAt S w bd bm D G d) (x : List UInt8) (hb : begD d [x] = 0) (hx : getF d.L x = none) :
    Calls Tryd.prog 67 #[pv bd, sv x] w fun e w' => e = .returned (.tuple #[.pointer none, ev 7]) ∧ Ext w w' := by
  have x0 : Ext w (w.alloc (.cells #[sv x] 9)) := (Mod.refl _ w).alloc _
  have h0 := h.mod x0 (fun _ _ _ h => h)
  have hc := begin_any h0 (one_name w x) (by simp)
  have hl := (begD_len hb (List.mem_singleton.2 rfl)).2
  rw [hb] at hc
  have hhas : has D (.string x) = false := by rw [h.of.has]; exact decide_eq_false (getF_none hx)
  clear h
  go_enter Tryd.func67, Tryd.ntmps67
  go_wp2_with fail
  refine hc.mono ?_
  rintro e w1 ⟨rfl, x1⟩
  have h1 := h0.mod x1 (fun _ _ _ h => h)
  have hM := h1.map
  have c2 : w1.cell? ⟨bd, 2, none⟩ = some (.map (some bm)) := h1.blk.cell 2
  clear hc h0 h1 hb
  go_wp2_with (at_lookup; refine wp_lookN hM (by omega) hhas rfl _ _ rfl rfl rfl ?_)
  go_ret2
  exact ⟨rfl, ext_trans x0 x1⟩
set_option maxHeartbeats 4000000 in
theorem find_some (h : DkAt S w bd bm D G d) {f : Fi} (hb : begD d [f.name] = 0) (hf : f ∈ d.L) :
    Calls Tryd.prog 67 #[pv bd, sv f.name] w fun e w' => e = .returned (.tuple #[pv (G f.name).1, ev 0]) ∧ Ext w w' := by
  have x0 : Ext w (w.alloc (.cells #[sv f.name] 9)) := (Mod.refl _ w).alloc _
  have h0 := h.mod x0 (fun _ _ _ h => h)
  have hc := begin_any h0 (one_name w f.name) (by simp)
  have hl := (begD_len hb (List.mem_singleton.2 rfl)).2
  rw [hb] at hc
  have hin : f.name ∈ nms d.L := List.mem_map.2 ⟨f, hf, rfl⟩
  have hhas : has D (.string f.name) = true := by rw [h.of.has]; exact decide_eq_true hin
  have hat := h.of.key _ hin
  clear h hin
  generalize (G f.name).1 = g at *
  generalize f.name = x at *
  go_enter Tryd.func67, Tryd.ntmps67
  go_wp2_with fail
  refine hc.mono ?_
  rintro e w1 ⟨rfl, x1⟩
  have h1 := h0.mod x1 (fun _ _ _ h => h)
  have hM := h1.map
  have c2 : w1.cell? ⟨bd, 2, none⟩ = some (.map (some bm)) := h1.blk.cell 2
  clear hc h0 h1 hb
  replace hat := Lib.hid hat
  replace hhas := Lib.hid hhas
  go_wp2_with (at_lookup; refine wp_lookS hM (by omega) hhas.out hat.out rfl _ _ rfl rfl rfl ?_)
  go_ret2
  exact ⟨rfl, ext_trans x0 x1⟩
end
end Go.Proofs.YtblfhonfjljndaaDoor
namespace Go.Proofs.YtblfhonfjljndaaDoor
open Go.RowKit Go.Maps Go.WideMaps
set_option maxRecDepth 100000

section
variable {S T : Nat → Prop} {w w' : World} {bd bm : Nat} {D : DataW Unit} {G : Lay} {d : Ds}
/-- The Disk's own cells turned. -/
theorem DkAt.self (h : DkAt S w bd bm D G d) {fu : Bool} {left : Nat} (hm : Mod (fun k => k = bd) w w') (hb : Blk w' bd 55 (dcells { d with fu := fu, left := left } bm)) (hlf : left ≤ 9223372036854775807) : DkAt S w' bd bm D G { d with fu := fu, left := left } where
  sd := h.sd
  sm := h.sm
  blk := hb
  map := ownsMap_mod h.map hm fun e => h.blk.ne_map h.map e.symm
  of := h.of
  rise := h.rise
  fs := h.fs
  fb := fun f hf => (h.fb f hf).mod hm (h.bd_ne hf)
  fo := fun f hf => (h.fo f hf).mod hm fun _ hk => (h.own_ne hf hk).1
  fl := h.fl
  apart := h.apart
  room := h.room
  most := h.most
  few := h.few
  lf := hlf
theorem setg_mod (w : World) (g i : Nat) (u : Value) : Mod (fun k => k = g) w (w.setCell ⟨g, i, none⟩ u) := (Mod.refl (fun k => k = g) w).setCell (p := ⟨g, i, none⟩) (fun _ => rfl) u

set_option maxHeartbeats 4000000 in
theorem done_any (h : DkAt S w bd bm D G d) (hl : d.fu = true → 1 ≤ d.left) :
    Calls Tryd.prog 41 #[pv bd] w fun e w' => e = .returned (ev 0) ∧ DkAt S w' bd bm D G (doneD d) ∧ Mod (fun k => k = bd) w w' := by
  have c3 : w.cell? ⟨bd, 3, none⟩ = some (.bool d.fu) := h.blk.cell 3
  have c4 : w.cell? ⟨bd, 4, none⟩ = some (.int .i64 (d.left : Int)) := h.blk.cell 4
  have z4 : w.frozen? ⟨bd, 4, none⟩ = false := h.blk.frozen 4
  have hb := h.lf
  by_cases hf : d.fu = true
  · rw [hf] at c3
    have h1 := hl hf
    have hfin : ∀ x : Int, x = ((d.left - 1 : Nat) : Int) → DkAt S (w.setCell ⟨bd, 4, none⟩ (.int .i64 x)) bd bm D G (doneD d) ∧ Mod (fun k => k = bd) w (w.setCell ⟨bd, 4, none⟩ (.int .i64 x)) := fun x hx => by
      subst hx
      have e : doneD d = { d with fu := d.fu, left := d.left - 1 } := by unfold doneD; rw [if_pos hf]
      rw [e]
      exact ⟨h.self (setg_mod _ _ _ _) (h.blk.set_ 4 _) (by omega), setg_mod _ _ _ _⟩
    replace hfin := Lib.hid hfin
    clear h hl hf
    go_enter Tryd.func41, Tryd.ntmps41
    go_wp2_with fail
    go_ret
    exact ⟨rfl, hfin.out _ (by omega)⟩
  · have hf' : d.fu = false := by simpa using hf
    rw [hf'] at c3
    have hfin : DkAt S w bd bm D G (doneD d) ∧ Mod (fun k => k = bd) w w := by
      have e : doneD d = d := by unfold doneD; rw [if_neg hf]
      rw [e]
      exact ⟨h, Mod.refl _ _⟩
    replace hfin := Lib.hid hfin
    clear h hl hf hf'
    go_enter Tryd.func41, Tryd.ntmps41
    go_wp2_with fail
    go_ret
    exact ⟨rfl, hfin.out⟩
theorem tot_snoc (P : Tx) (k : Nat) (h : k < P.length) : ((P.take (k + 1)).map List.length).sum = ((P.take k).map List.length).sum + P[k].length := by
  rw [List.take_succ_eq_append_getElem h, List.map_append, List.sum_append]
  simp
theorem tot_le (P : Tx) (k : Nat) : ((P.take k).map List.length).sum ≤ (P.map List.length).sum := by
  conv => rhs; rw [← List.take_append_drop k P, List.map_append, List.sum_append]
  omega
abbrev tot (P : Tx) : Nat := (P.map List.length).sum
set_option maxHeartbeats 4000000 in
theorem fits_any (h : DkAt S w bd bm D G d) {v : Value} {P : Tx} (hv : Rw w T v P) (hp : P.length ≤ 1000000) :
    Calls Tryd.prog 39 #[pv bd, v] w fun e w' => e = .returned (.bool (decide (sumB d.L + tot P ≤ d.room))) ∧ Ext w w' := by
  have c0 : w.cell? ⟨bd, 0, none⟩ = some (.int .i64 (d.room : Int)) := h.blk.cell 0
  have c1 : w.cell? ⟨bd, 1, none⟩ = some (.int .i64 (sumB d.L : Nat)) := h.blk.cell 1
  have hr := h.room
  have hm := h.most
  clear h
  obtain ⟨A, c, vs, rfl, h1, h2, h3, h0, h5, h6⟩ := hv.open_
  generalize d.room = R at *
  generalize sumB d.L = U at *
  obtain ⟨q, hq⟩ : ∃ q, q = decide (U + tot P ≤ R) := ⟨_, rfl⟩
  rw [← hq]
  replace hq := Lib.hid hq
  have hw : IntKind.i64.wrap ((R : Int) - (U : Int)) = (R : Int) - (U : Int) := by rw [IntKind.wrap_i64]; omega
  go_enter Tryd.func39, Tryd.ntmps39
  go_wp2_with fail
  go_quiet (fail)
  go_wp2_with fail
  go_loopw [5, 19] (fun l i wr => ∃ (k n : Nat), k ≤ P.length ∧ i = .int .i64 k ∧ l = .int .i64 n ∧ Hid (n + U + tot (P.take k) = R) ∧ n ≤ 1073741824 ∧ Ext w wr) (fun _ i _ => P.length - (intOf i).toNat)
  case atStart => exact ⟨0, R - U, Nat.zero_le _, rfl, by congr 1; omega, Lib.hid (by simp [tot]; omega), by omega, (Mod.refl _ _).drewN _⟩
  case round =>
    clear hw
    obtain ⟨k, n, hk, rfl, rfl, hs, hn, hx⟩ := hrel
    by_cases hlt : k < P.length
    case neg =>
      have hbl : decide ((k : Int) < (P.length : Int)) = false := dfalse (by omega)
      have he : q = true := by
        have := hs.out
        rw [List.take_of_length_le (by omega)] at this
        rw [hq.out]
        exact decide_eq_true (by omega)
      clear hs hq
      subst he
      go_wp2_with fail
      go_ret
      exact ⟨rfl, hx⟩
    have hbl : decide ((k : Int) < (P.length : Int)) = true := dtrue (by omega)
    obtain ⟨ad, y, hA, hc, hB⟩ := row_now h0 h5 h6 hx (fun _ _ _ h => h) hlt
    subst hA
    have hi0 : (0 : Int) ≤ (k : Int) := by omega
    have hi1 : (k : Int) < (P.length : Int) := by omega
    have hsn := tot_snoc P k hlt
    have hle := tot_le P (k + 1)
    obtain ⟨B, e, rfl, j1, j2, j3, j4⟩ := hB.open_
    have hst : P[k].length ≤ n → Hid ((n - P[k].length) + U + tot (P.take (k + 1)) = R) := fun h => Lib.hid (by
      have := hs.out
      simp only [tot] at this ⊢
      omega)
    have hst2 : n < P[k].length → q = false := fun h => by
      rw [hq.out]
      have := hs.out
      simp only [tot] at this ⊢
      exact decide_eq_false (by omega)
    clear hs hsn hle j4
    generalize P[k].length = m at *
    by_cases hmn : n < m
    · have hb : decide ((n : Int) < (m : Int)) = true := dtrue (by omega)
      have he := hst2 hmn
      clear hst hst2 hq
      subst he
      go_wp2_with fail
      go_ret
      exact ⟨rfl, hx⟩
    have hb : decide ((n : Int) < (m : Int)) = false := dfalse (by omega)
    have hs := hst (by omega)
    clear hst hst2
    go_wp2_with fail
    exact ⟨⟨k + 1, n - m, by omega, by go_num, by congr 1; omega, hs, by omega, hx⟩, by simp [intOf] <;> omega⟩
end
set_option maxHeartbeats 4000000 in
theorem owd_any {w : World} {S : Nat → Prop} {v : Value} {l : List UInt8} (h : Bs w S v l) (hl : l.length ≤ 100000000000) :
    Calls Tryd.prog 47 #[v] w fun e w' => ∃ u, e = .returned u ∧ Own w' 5 u (l.map bv) ∧ Fresh w.heap.size u ∧ u ≠ .slice none 0 0 ∧ Ext w w' := by
  obtain ⟨A, c, rfl, h1, h2, h3, h4⟩ := h.open_
  go_enter Tryd.func47, Tryd.ntmps47
  go_wp2_with (first
    | ((with_reducible show wpList _ _ _ (⟨some 6, _, _, _, _, _⟩ :: _) _ _); refine wp_make tyB l.length rfl _ _ rfl rfl rfl (by omega) ?_; intro w2 o2 x2 z2)
    | ((with_reducible show wpList _ _ _ (⟨some 9, _, _, _, _, _⟩ :: _) _ _); refine wp_copy tyB o2 (h.ext x2) (bv_one l) rfl (.tmp 7) (.tmp 8) rfl rfl rfl ?_; intro w3 o3 x3))
  rw [List.length_map, List.length_replicate, Nat.min_self, List.take_of_length_le (by simp), List.drop_of_length_le (by simp), List.append_nil] at o3
  have f3 : Fresh w.heap.size (.slice (some ⟨w.heap.size, 0, none⟩) l.length l.length) := fun b hb => by
    have e : w.heap.size = b := by simpa [Value.ownBlock] using hb
    omega
  go_ret
  exact ⟨_, rfl, o3, f3, by simp, ext_app0 x2 f3 x3⟩
end Go.Proofs.YtblfhonfjljndaaDoor
namespace Go.Proofs.YtblfhonfjljndaaDoor
open Go.RowKit Go.Maps Go.WideMaps
set_option maxRecDepth 100000

theorem ob_len (A : Option Addr) (n m c : Nat) : (Value.slice A n c).ownBlock = (Value.slice A m c).ownBlock := by cases A <;> rfl
section
variable {S T : Nat → Prop} {w w' : World} {bd bm : Nat} {D : DataW Unit} {G : Lay} {d : Ds}
abbrev cutF (f : Fi) (n : Nat) : Fi := ⟨f.name, f.b.take n, min f.last n⟩
set_option maxHeartbeats 4000000 in
theorem cut_any3 (h : DkAt S w bd bm D G d) {f : Fi} (hf : f ∈ d.L) {n : Nat} (hn : n ≤ f.b.length) :
    Calls Tryd.prog 37 #[pv bd, pv (G f.name).1, .int .i64 n] w fun e w' => e = .returned (.tuple #[]) ∧ ∃ u, DkAt (fun k => S k ∨ w.heap.size ≤ k) w' bd bm D (upd G f.name ((G f.name).1, u)) { d with L := putF d.L (cutF f n) } ∧ Mod (fun k => k = bd ∨ k = (G f.name).1) w w' := by
  have hfb := h.fb f hf
  have hfo := h.fo f hf
  have hfl := h.fl f hf
  have hne : ¬ (G f.name).1 = bd := h.bd_ne hf
  have hne2 : ¬ bd = (G f.name).1 := fun e => hne e.symm
  obtain ⟨A, c, hv⟩ := hfo.shape
  rw [List.length_map] at hv
  have hroom := h.room
  have hmost := h.most
  have hsum := sumB_putF (f := cutF f n) h.rise
  rw [show (cutF f n).name = f.name from rfl, getF_of_mem h.rise hf] at hsum
  simp only [lenB, one, cutF, List.length_take] at hsum
  have hob := hfo
  rw [hv] at hob
  have hcap : f.b.length ≤ c := by simpa using own_cap hob
  have hobn := hob.begin (m := n) (by simpa using hn)
  rw [← List.map_take] at hobn
  have hbig : c ≤ 9223372036854775807 := by
    obtain ⟨A', c', e1, e2, e3, _⟩ := hob.sl
    injection e1 with _ _ e1
    subst e1
    simpa [maxLen] using e3
  have b1 : w.cell? ⟨bd, 1, none⟩ = some (.int .i64 (sumB d.L : Nat)) := h.blk.cell 1
  have z1 : w.frozen? ⟨bd, 1, none⟩ = false := h.blk.frozen 1
  have g0 : w.cell? ⟨(G f.name).1, 0, none⟩ = some (.slice A f.b.length c) := by rw [← hv]; exact hfb.cell 0
  have g1 : w.cell? ⟨(G f.name).1, 1, none⟩ = some (.int .i64 (f.last : Int)) := hfb.cell 1
  have y0 : w.frozen? ⟨(G f.name).1, 0, none⟩ = false := hfb.frozen 0
  have y1 : w.frozen? ⟨(G f.name).1, 1, none⟩ = false := hfb.frozen 1
  have hi0 : (0 : Int) ≤ (n : Int) := by omega
  have hi1 : (n : Int) ≤ (f.b.length : Int) := by omega
  have hi2 : (n : Int) ≤ (c : Int) := by omega
  have hlen : f.b.length ≤ sumB d.L := by
    have := sumB_delF (x := f.name) h.rise
    rw [getF_of_mem h.rise hf] at this
    simp only [lenB] at this
    omega
  have hu0 : (0 : Int) ≤ (f.b.length : Int) - (n : Int) := by omega
  have hw1 : IntKind.i64.wrap ((f.b.length : Int) - (n : Int)) = (f.b.length : Int) - (n : Int) := by rw [IntKind.wrap_i64]; omega
  have hw2 : IntKind.i64.wrap ((sumB d.L : Nat) - ((f.b.length : Int) - (n : Int))) = (sumB d.L : Nat) - ((f.b.length : Int) - (n : Int)) := by rw [IntKind.wrap_i64]; omega
  have hfin : ∀ x y : Int, x = (sumB d.L : Nat) - ((f.b.length : Int) - (n : Int)) → y = (min f.last n : Nat) →
      (∃ u, DkAt (fun k => S k ∨ w.heap.size ≤ k) (((w.setCell ⟨bd, 1, none⟩ (.int .i64 x)).setCell ⟨(G f.name).1, 0, none⟩ (.slice A n c)).setCell ⟨(G f.name).1, 1, none⟩ (.int .i64 y)).drew bd bm D (upd G f.name ((G f.name).1, u)) { d with L := putF d.L (cutF f n) }) ∧
        Mod (fun k => k = bd ∨ k = (G f.name).1) w (((w.setCell ⟨bd, 1, none⟩ (.int .i64 x)).setCell ⟨(G f.name).1, 0, none⟩ (.slice A n c)).setCell ⟨(G f.name).1, 1, none⟩ (.int .i64 y)).drew := by
    intro x y hx hy
    have hm : Mod (fun k => k = bd ∨ k = (G f.name).1) w (((w.setCell ⟨bd, 1, none⟩ (.int .i64 x)).setCell ⟨(G f.name).1, 0, none⟩ (.slice A n c)).setCell ⟨(G f.name).1, 1, none⟩ (.int .i64 y)).drew :=
      ((((Mod.refl _ w).setCell (p := ⟨bd, 1, none⟩) (fun _ => .inl rfl) _).setCell (p := ⟨(G f.name).1, 0, none⟩) (fun _ => .inr rfl) _).setCell (p := ⟨(G f.name).1, 1, none⟩) (fun _ => .inr rfl) _).drew
    have hx' : x = (sumB (putF d.L (cutF f n)) : Nat) := by
      have := hsum.1
      rw [Nat.min_eq_left hn] at this
      show x = (sumB (putF d.L ⟨f.name, f.b.take n, min f.last n⟩) : Nat)
      omega
    subst hx'
    subst hy
    have hb := ((h.blk.set_ 1 (.int .i64 (sumB (putF d.L (cutF f n)) : Nat))).far (p := ⟨(G f.name).1, 0, none⟩) hne2 (.slice A n c)).far (p := ⟨(G f.name).1, 1, none⟩) hne2 (.int .i64 (min f.last n : Nat))
    have hg := ((hfb.far (p := ⟨bd, 1, none⟩) hne (.int .i64 (sumB (putF d.L (cutF f n)) : Nat))).set_ 0 (.slice A n c)).set_ 1 (.int .i64 (min f.last n : Nat))
    refine ⟨⟨_, h.file hf hm (fun k _ hk => hk.elim .inl fun e => .inr (.inl e)) (u := .slice A n c) (.inl (by rw [hv]; exact ob_len _ _ _ _)) hb hg (hobn.mod hm fun k hk => ?_) ?_ ?_ ?_⟩, hm⟩
    · have hk' : own (G f.name).2 k := by rw [hv]; exact (ob_len _ _ _ _).trans hk
      rintro (rfl | e)
      · exact (h.own_ne hf hk').1 rfl
      · exact (h.own_ne hf hk').2.2 f hf e
    · show min f.last n ≤ (f.b.take n).length
      rw [List.length_take]; omega
    · show sumB d.L + (f.b.take n).length ≤ d.room + f.b.length
      rw [List.length_take]; omega
    · exact h.lf
  clear hsum hob hobn hfb hfo h hf hv hcap
  replace hfin := Lib.hid hfin
  generalize (G f.name).1 = g at *
  generalize f.b.length = m at *
  generalize sumB d.L = U at *
  go_enter Tryd.func37, Tryd.ntmps37
  go_wp2_with fail
  go_region
  all_goals go_wp2_with fail
  all_goals
    go_end0
    exact ⟨rfl, hfin.out _ _ rfl (by omega)⟩
end
end Go.Proofs.YtblfhonfjljndaaDoor
namespace Go.Proofs.YtblfhonfjljndaaDoor
open Go.RowKit Go.Maps Go.WideMaps
set_option maxRecDepth 100000

section
variable {S T F : Nat → Prop} {w w' : World} {bd bm : Nat} {D : DataW Unit} {G : Lay} {d : Ds}
/-- A file is gone. -/
theorem DkAt.gone (h : DkAt S w bd bm D G d) (x : List UInt8) (hm : Mod (fun k => k = bd ∨ k = bm) w w') (hb : Blk w' bd 55 (dcells { d with L := delF d.L x } bm)) (hM : w'.ownsMap Tryd.prog 9 ptrElem bm d.L.length (D.del (.string x))) :
    DkAt S w' bd bm (D.del (.string x)) G { d with L := delF d.L x } := by
  have hof := h.of.del h.rise x
  have hsz := sumB_delF (x := x) h.rise
  have hmem : ∀ f ∈ delF d.L x, f ∈ d.L := fun f hf => ((mem_delF f).1 hf).1
  have hN := ownsMap_tight hM
  rw [hof.size] at hN
  refine ⟨h.sd, h.sm, hb, hN, hof, rise_delF h.rise x, fun f hf => h.fs f (hmem f hf), fun f hf => (h.fb f (hmem f hf)).mod hm ?_, fun f hf => (h.fo f (hmem f hf)).mod hm fun k hk => ?_, fun f hf => h.fl f (hmem f hf), fun f hf f' hf' => h.apart f (hmem f hf) f' (hmem f' hf'), by show sumB (delF d.L x) ≤ d.room; have := h.room; omega, h.most, by show (delF d.L x).length ≤ 4096; have := h.few; omega, h.lf⟩
  · rintro (e | e)
    · exact h.bd_ne (hmem f hf) e
    · exact (h.fb f (hmem f hf)).ne_map h.map e
  · rintro (e | e)
    · exact (h.own_ne (hmem f hf) hk).1 e
    · exact (h.own_ne (hmem f hf) hk).2.1 e
/-- A file is laid into the map. -/
theorem DkAt.laid (h : DkAt S w bd bm D G d) {x : List UInt8} (hx : x ∉ nms d.L) {g : Nat} {u : Value} {b : List UInt8} {last : Nat} (hm : Mod (fun k => k = bd ∨ k = bm) w w') (hb : Blk w' bd 55 (dcells { d with L := putF d.L ⟨x, b, last⟩ } bm)) (hM : w'.ownsMap Tryd.prog 9 ptrElem bm (d.L.length + 1) (D.put (.string x) (.lit (.int .i64 (g : Nat)))))
    (hg : Blk w g 70 (fcells u last)) (ho : Own w 5 u (b.map bv)) (hl : last ≤ b.length ∧ 1 ≤ x.length ∧ x.length ≤ 64) (hsg : S g ∧ ∀ k, own u k → S k) (hap : ∀ f ∈ d.L, g ≠ (G f.name).1 ∧ ∀ k, own u k → ¬ own (G f.name).2 k) (hroom : sumB d.L + b.length ≤ d.room) (hfew : d.L.length < 4096) :
    DkAt S w' bd bm (D.put (.string x) (.lit (.int .i64 (g : Nat)))) (upd G x (g, u)) { d with L := putF d.L ⟨x, b, last⟩ } := by
  have hof := h.of.put h.rise ⟨x, b, last⟩ g u
  have hget : getF d.L x = none := by
    cases e : getF d.L x with
    | none => rfl
    | some f => exact absurd (getF_iff.2 (by rw [e]; rfl)) hx
  obtain ⟨s1, s2⟩ := sumB_putF (f := ⟨x, b, last⟩) h.rise
  rw [show (⟨x, b, last⟩ : Fi).name = x from rfl, hget] at s1 s2
  simp only [lenB, one] at s1 s2
  have hlen : (putF d.L ⟨x, b, last⟩).length = d.L.length + 1 := by omega
  have hcase : ∀ f' ∈ putF d.L ⟨x, b, last⟩, f' = ⟨x, b, last⟩ ∨ (f' ∈ d.L ∧ f'.name ≠ x) := fun f' hf' => (mem_putF h.rise f').1 hf'
  have hnew : ∀ k, own u k → k ≠ bd ∧ k ≠ bm := fun k hk => by
    obtain ⟨cur, hc⟩ := ho.ty hk
    exact ⟨by rintro rfl; exact absurd (hc.ty_eq h.blk) (by decide), hc.ne_map h.map⟩
  refine ⟨h.sd, h.sm, hb, ?_, hof, rise_putF h.rise, ?_, ?_, ?_, ?_, ?_, ?_, h.most, by show (putF d.L _).length ≤ 4096; rw [hlen]; omega, h.lf⟩
  · show w'.ownsMap _ _ _ bm (putF d.L _).length _
    rw [hlen]
    exact hM
  · intro f' hf'
    rcases hcase f' hf' with rfl | ⟨h1, h2⟩
    · rw [upd_same]; exact hsg
    · rw [upd_other _ _ h2]; exact h.fs f' h1
  · intro f' hf'
    rcases hcase f' hf' with rfl | ⟨h1, h2⟩
    · rw [upd_same]
      refine hg.mod hm ?_
      rintro (e | e)
      · rw [e] at hg; exact absurd (hg.ty_eq h.blk) (by decide)
      · exact hg.ne_map h.map e
    · rw [upd_other _ _ h2]
      refine (h.fb f' h1).mod hm ?_
      rintro (e | e)
      · exact h.bd_ne h1 e
      · exact (h.fb f' h1).ne_map h.map e
  · intro f' hf'
    rcases hcase f' hf' with rfl | ⟨h1, h2⟩
    · rw [upd_same]
      refine ho.mod hm fun k hk => ?_
      rintro (e | e)
      · exact (hnew k hk).1 e
      · exact (hnew k hk).2 e
    · rw [upd_other _ _ h2]
      refine (h.fo f' h1).mod hm fun k hk => ?_
      rintro (e | e)
      · exact (h.own_ne h1 hk).1 e
      · exact (h.own_ne h1 hk).2.1 e
  · intro f' hf'
    rcases hcase f' hf' with rfl | ⟨h1, h2⟩
    · exact hl
    · exact h.fl f' h1
  · intro f1 h1 f2 h2 hn
    rcases hcase f1 h1 with rfl | ⟨a1, a2⟩ <;> rcases hcase f2 h2 with rfl | ⟨c1, c2⟩
    · exact absurd rfl hn
    · rw [upd_same, upd_other _ _ c2]
      exact hap f2 c1
    · rw [upd_same, upd_other _ _ a2]
      exact ⟨Ne.symm (hap f1 a1).1, fun k hk hk2 => (hap f1 a1).2 k hk2 hk⟩
    · rw [upd_other _ _ a2, upd_other _ _ c2]
      exact h.apart f1 a1 f2 c1 hn
  · show sumB (putF d.L _) ≤ d.room
    omega
theorem mod_turned {b : Nat} (h : w.mapTurned w' b) : Mod (fun k => k = b) w w' := by
  obtain ⟨es, clock, es', clock', hb, rfl⟩ := h
  refine ⟨rfl, rfl, rfl, by simp [ChangeMaps.setBlock], fun k _ hk => ?_⟩
  exact ChangeMaps.heap_setBlock_other hb _ (fun e => hk (by rw [e]))

set_option maxHeartbeats 4000000 in
theorem drop_none (h : DkAt S w bd bm D G d) {x : List UInt8} (hx : getF d.L x = none) (hl : x.length ≤ 64) :
    Calls Tryd.prog 53 #[pv bd, sv x] w fun e w' => e = .returned (.tuple #[]) ∧ w' = w := by
  have hhas : has D (.string x) = false := by rw [h.of.has]; exact decide_eq_false (getF_none hx)
  have hM := h.map
  have c2 : w.cell? ⟨bd, 2, none⟩ = some (.map (some bm)) := h.blk.cell 2
  clear h hx
  replace hhas := Lib.hid hhas
  go_enter Tryd.func53, Tryd.ntmps53
  go_wp2_with (at_lookup; refine wp_lookN hM (by omega) hhas.out rfl _ _ rfl rfl rfl ?_)
  go_end0
  exact ⟨rfl, rfl⟩
set_option maxHeartbeats 4000000 in
theorem drop_some (h : DkAt S w bd bm D G d) {f : Fi} (hf : f ∈ d.L) :
    Calls Tryd.prog 53 #[pv bd, sv f.name] w fun e w' => e = .returned (.tuple #[]) ∧ DkAt S w' bd bm (D.del (.string f.name)) G { d with L := delF d.L f.name } ∧ Mod (fun k => k = bd ∨ k = bm) w w' := by
  have hin : f.name ∈ nms d.L := List.mem_map.2 ⟨f, hf, rfl⟩
  have hhas : has D (.string f.name) = true := by rw [h.of.has]; exact decide_eq_true hin
  have hat := h.of.key _ hin
  have hl := (h.fl f hf).2.2
  have hM := h.map
  have c1 : w.cell? ⟨bd, 1, none⟩ = some (.int .i64 (sumB d.L : Nat)) := h.blk.cell 1
  have c2 : w.cell? ⟨bd, 2, none⟩ = some (.map (some bm)) := h.blk.cell 2
  have z1 : w.frozen? ⟨bd, 1, none⟩ = false := h.blk.frozen 1
  obtain ⟨A, c, hv⟩ := (h.fo f hf).shape
  rw [List.length_map] at hv
  have g0 : w.cell? ⟨(G f.name).1, 0, none⟩ = some (.slice A f.b.length c) := by rw [← hv]; exact (h.fb f hf).cell 0
  have hsum := sumB_delF (x := f.name) h.rise
  rw [getF_of_mem h.rise hf] at hsum
  simp only [lenB, one] at hsum
  have hroom := h.room
  have hmost := h.most
  have hw : IntKind.i64.wrap ((sumB d.L : Nat) - (f.b.length : Int)) = (sumB d.L : Nat) - (f.b.length : Int) := by rw [IntKind.wrap_i64]; omega
  have hbm : bd ≠ bm := h.blk.ne_map h.map
  have hM2 : ∀ x : Int, ((w.setCell ⟨bd, 1, none⟩ (.int .i64 x)).drew).ownsMap Tryd.prog 9 ptrElem bm d.L.length D := fun x => ownsMap_mod h.map (setg_mod w bd 1 _).drew fun e => hbm e.symm
  have hfin : ∀ (x : Int) (w' : World), x = (sumB d.L : Nat) - (f.b.length : Int) → Mod (fun k => k = bm) (w.setCell ⟨bd, 1, none⟩ (.int .i64 x)).drew w' → w'.ownsMap Tryd.prog 9 ptrElem bm d.L.length (D.del (.string f.name)) →
      DkAt S w' bd bm (D.del (.string f.name)) G { d with L := delF d.L f.name } ∧ Mod (fun k => k = bd ∨ k = bm) w w' := by
    intro x w' hx hm hM'
    have hx' : x = (sumB (delF d.L f.name) : Nat) := by omega
    subst hx'
    have hm2 : Mod (fun k => k = bd ∨ k = bm) w w' := (setg_mod w bd 1 _).drew.trans hm (fun _ _ h => .inl h) (fun _ _ h => .inr h)
    have hb : Blk (w.setCell ⟨bd, 1, none⟩ (.int .i64 (sumB (delF d.L f.name) : Nat))).drew bd 55 (dcells { d with L := delF d.L f.name } bm) := h.blk.set_ 1 _
    exact ⟨h.gone f.name hm2 (hb.mod hm hbm) hM', hm2⟩
  replace hfin := Lib.hid hfin
  clear h hf hin hv hsum
  generalize (G f.name).1 = g at *
  generalize f.b.length = m at *
  generalize sumB d.L = U at *
  generalize f.name = x at *
  replace hhas := Lib.hid hhas
  replace hat := Lib.hid hat
  go_enter Tryd.func53, Tryd.ntmps53
  go_wp2_with (at_lookup; refine wp_lookS hM (by omega) hhas.out hat.out rfl _ _ rfl rfl rfl ?_)
  go_region
  all_goals go_wp2_with (at_delete; refine wpList_delete_own _ rfl _ _ 53 9 rfl 68 keyS Tryd.underlying53 _ bm d.L.length D rfl (hM2 _) _ _ rfl (keyOf_sv x (by omega)) ?_; intro w1 hM1 ht1)
  all_goals
    have hx := hfin.out _ _ rfl (mod_turned ht1) hM1
    go_end0
    exact ⟨rfl, hx⟩
set_option maxHeartbeats 4000000 in
theorem put_any (h : DkAt S w bd bm D G d) {x : List UInt8} (hx : x ∉ nms d.L) (hxl : 1 ≤ x.length ∧ x.length ≤ 64) {g : Nat} (hg : Blk w g 70 (fcells (.slice none 0 0) 0)) (hap : ∀ f ∈ d.L, g ≠ (G f.name).1) (hfew : d.L.length < 4096) (hsg : S g) :
    Calls Tryd.prog 40 #[pv bd, sv x, pv g] w fun e w' => e = .returned (.tuple #[]) ∧ DkAt S w' bd bm (D.put (.string x) (.lit (.int .i64 (g : Nat)))) (upd G x (g, .slice none 0 0)) { d with L := putF d.L ⟨x, [], 0⟩ } ∧ Mod (fun k => k = bm) w w' := by
  have hM := h.map
  have c2 : w.cell? ⟨bd, 2, none⟩ = some (.map (some bm)) := h.blk.cell 2
  have hbm : bd ≠ bm := h.blk.ne_map h.map
  have hfin : ∀ (w' : World), Mod (fun k => k = bm) w w' → w'.ownsMap Tryd.prog 9 ptrElem bm (d.L.length + 1) (D.put (.string x) (.lit (.int .i64 (g : Nat)))) →
      DkAt S w' bd bm (D.put (.string x) (.lit (.int .i64 (g : Nat)))) (upd G x (g, .slice none 0 0)) { d with L := putF d.L ⟨x, [], 0⟩ } := by
    intro w' hm hM'
    have hget : getF d.L x = none := by
      cases e : getF d.L x with
      | none => rfl
      | some f => exact absurd (getF_iff.2 (by rw [e]; rfl)) hx
    have hs := (sumB_putF (f := ⟨x, [], 0⟩) h.rise).1
    rw [show (⟨x, [], 0⟩ : Fi).name = x from rfl, hget] at hs
    simp only [lenB, List.length_nil, Nat.add_zero] at hs
    have hb : Blk w' bd 55 (dcells { d with L := putF d.L ⟨x, [], 0⟩ } bm) := by
      have := h.blk.mod hm hbm
      simp only [dcells, hs] at this ⊢
      exact this
    exact h.laid hx (hm.mono fun _ _ h => .inr h) hb hM' hg (Own.nil _ _) ⟨Nat.zero_le _, hxl⟩ ⟨hsg, fun k hk => by simp [own, Value.ownBlock] at hk⟩ (fun f hf => ⟨hap f hf, fun k hk => by simp [own, Value.ownBlock] at hk⟩) (by simpa using h.room) hfew
  replace hfin := Lib.hid hfin
  have hlt : d.L.length < maxLen := by simp only [maxLen]; omega
  clear h hap hx
  have hne : ∀ wx : World, (binOp .eql 53 (.map (some bm)) (.map none)).run Tryd.prog wx = .ok (.bool false) wx := fun wx => by rfl
  go_enter Tryd.func40, Tryd.ntmps40
  go_wp2_with (at_mapUpdate; refine wpList_mapUpdate_in _ rfl _ _ _ 53 rfl 9 68 keyS Tryd.underlying53 ptrElem bm d.L.length D rfl hM hlt _ _ _ rfl rfl (keyOf_sv x (by omega)) _ [] (ptr_mk g) ?_; intro w1 hM1 ht1)
  go_end0
  exact ⟨rfl, hfin.out _ (mod_turned ht1) hM1, mod_turned ht1⟩
def fuseD (d : Ds) (n : Int) : Ds := { d with fu := decide (0 ≤ n), left := n.toNat }
set_option maxHeartbeats 4000000 in
theorem fuse_any (h : DkAt S w bd bm D G d) (n : Int) (hn63 : n ≤ 9223372036854775807) :
    Calls Tryd.prog 17 #[pv bd, .int .i64 n] w fun e w' => e = .returned (.tuple #[]) ∧ DkAt S w' bd bm D G (fuseD d n) ∧ Mod (fun k => k = bd) w w' := by
  have c3 : w.cell? ⟨bd, 3, none⟩ = some (.bool d.fu) := h.blk.cell 3
  have c4 : w.cell? ⟨bd, 4, none⟩ = some (.int .i64 (d.left : Int)) := h.blk.cell 4
  have z3 : w.frozen? ⟨bd, 3, none⟩ = false := h.blk.frozen 3
  have z4 : w.frozen? ⟨bd, 4, none⟩ = false := h.blk.frozen 4
  have hfin : ∀ (b : Bool) (x : Int), b = decide (0 ≤ n) → x = (n.toNat : Nat) → DkAt S ((w.setCell ⟨bd, 3, none⟩ (.bool b)).setCell ⟨bd, 4, none⟩ (.int .i64 x)) bd bm D G (fuseD d n) ∧ Mod (fun k => k = bd) w ((w.setCell ⟨bd, 3, none⟩ (.bool b)).setCell ⟨bd, 4, none⟩ (.int .i64 x)) := fun b x hb hx => by
    subst hb; subst hx
    have hm : Mod (fun k => k = bd) w ((w.setCell ⟨bd, 3, none⟩ (.bool (decide (0 ≤ n)))).setCell ⟨bd, 4, none⟩ (.int .i64 (n.toNat : Nat))) := (setg_mod w bd 3 _).setCell (p := ⟨bd, 4, none⟩) (fun _ => rfl) _
    exact ⟨h.self hm ((h.blk.set_ 3 _).set_ 4 _) (by omega), hm⟩
  replace hfin := Lib.hid hfin
  clear h
  by_cases hn : 0 ≤ n
  · have hb : decide (0 ≤ n) = true := dtrue hn
    go_enter Tryd.func17, Tryd.ntmps17
    go_wp2_with fail
    all_goals
      go_end0
      exact ⟨rfl, hfin.out _ _ (dtrue hn).symm (by omega)⟩
  · have hb : decide (0 ≤ n) = false := dfalse hn
    go_enter Tryd.func17, Tryd.ntmps17
    go_wp2_with fail
    all_goals
      go_end0
      exact ⟨rfl, hfin.out _ _ (dfalse (by omega)).symm (by omega)⟩
end
end Go.Proofs.YtblfhonfjljndaaDoor
namespace Go.Proofs.YtblfhonfjljndaaDoor
open Go.RowKit Go.Maps Go.WideMaps
set_option maxRecDepth 100000

/-- S, and what is new since w. -/
abbrev Grow (S : Nat → Prop) (w : World) : Nat → Prop := fun k => S k ∨ w.heap.size ≤ k
def onF (d : Ds) (x : List UInt8) (f : Fi → Ds × Nat) : Ds × Nat :=
  if begD d [x] ≠ 0 then (d, begD d [x]) else match getF d.L x with
  | none => (d, 7)
  | some g => f g
def syncD (d : Ds) (x : List UInt8) : Ds × Nat := onF d x fun f => (doneD { d with L := putF d.L ⟨f.name, f.b, f.b.length⟩ }, 0)
def removeD (d : Ds) (x : List UInt8) : Ds × Nat := onF d x fun f => (doneD { d with L := delF d.L f.name }, 0)
def truncD (d : Ds) (x : List UInt8) (n : Int) : Ds × Nat := onF d x fun f => if n < 0 ∨ (f.b.length : Int) < n then (d, 1) else (doneD { d with L := putF d.L (cutF f n.toNat) }, 0)
theorem begD_left {d : Ds} {L : Tx} (h : begD d L = 0) (hf : d.fu = true) : 1 ≤ d.left := by
  unfold begD at h
  by_cases h1 : d.fu = true ∧ d.left = 0
  · rw [if_pos h1] at h; cases h
  · have : ¬ d.left = 0 := fun e => h1 ⟨hf, e⟩
    omega
theorem onF_err {d : Ds} {x : List UInt8} (f : Fi → Ds × Nat) (h : begD d [x] ≠ 0) : onF d x f = (d, begD d [x]) := by unfold onF; rw [if_pos h]
theorem onF_none {d : Ds} {x : List UInt8} (f : Fi → Ds × Nat) (h : begD d [x] = 0) (hx : getF d.L x = none) : onF d x f = (d, 7) := by unfold onF; rw [if_neg (by simpa using h), hx]
theorem onF_some {d : Ds} {x : List UInt8} {g : Fi} (f : Fi → Ds × Nat) (h : begD d [x] = 0) (hx : getF d.L x = some g) : onF d x f = f g := by unfold onF; rw [if_neg (by simpa using h), hx]
theorem n_ne0 {n : Nat} (h : n ≠ 0) : ((n : Int) != 0) = true := by rw [bne_iff_ne]; omega
section
variable {S T F : Nat → Prop} {w w' : World} {bd bm : Nat} {D : DataW Unit} {G : Lay} {d : Ds} {v : Value}
theorem Dk.grow (h : Dk S w v d) (w0 : World) : Dk (Grow S w0) w v d := h.mono fun _ _ h => .inl h
set_option maxHeartbeats 4000000 in
theorem sync_any (h : Dk S w v d) (x : List UInt8) :
    Calls Tryd.prog 52 #[v, sv x] w fun e w' => e = .returned (ev (syncD d x).2) ∧ Dk (Grow S w) w' v (syncD d x).1 ∧ Mod S w w' := by
  obtain ⟨bd, bm, D, G, rfl, h⟩ := h
  by_cases hb : begD d [x] = 0
  case neg =>
    have hc := find_err h x hb
    have hd : Dk S w (pv bd) d := ⟨bd, bm, D, G, rfl, h⟩
    have hn := n_ne0 hb
    rw [syncD, onF_err _ hb]
    clear h hb
    generalize begD d [x] = n at *
    go_enter Tryd.func52, Tryd.ntmps52
    go_wp2_with fail
    refine hc.mono ?_
    rintro e w1 ⟨rfl, x1⟩
    clear hc
    go_wp2_with fail
    go_ret
    exact ⟨rfl, (hd.ext x1).grow w, x1.mono fun _ _ h => h.elim⟩
  cases hx : getF d.L x with
  | none =>
    have hc := find_none h x hb hx
    have hd : Dk S w (pv bd) d := ⟨bd, bm, D, G, rfl, h⟩
    rw [syncD, onF_none _ hb hx]
    clear h hb hx
    go_enter Tryd.func52, Tryd.ntmps52
    go_wp2_with fail
    refine hc.mono ?_
    rintro e w1 ⟨rfl, x1⟩
    clear hc
    go_wp2_with fail
    go_ret
    exact ⟨rfl, (hd.ext x1).grow w, x1.mono fun _ _ h => h.elim⟩
  | some f =>
    have hf := getF_mem hx
    obtain rfl := getF_name hx
    have hc := find_some h hb hf
    rw [syncD, onF_some _ hb hx]
    have hlf := begD_left hb
    clear hb hx
    go_enter Tryd.func52, Tryd.ntmps52
    go_wp2_with fail
    refine hc.mono ?_
    rintro e w1 ⟨rfl, x1⟩
    have h1 := h.mod x1 (fun _ _ _ h => h)
    have hsz := x1.size
    obtain ⟨A, c, hv⟩ := (h1.fo f hf).shape
    rw [List.length_map] at hv
    have g0 : w1.cell? ⟨(G f.name).1, 0, none⟩ = some (.slice A f.b.length c) := by rw [← hv]; exact (h1.fb f hf).cell 0
    have g1 : w1.cell? ⟨(G f.name).1, 1, none⟩ = some (.int .i64 (f.last : Int)) := (h1.fb f hf).cell 1
    have z1 : w1.frozen? ⟨(G f.name).1, 1, none⟩ = false := (h1.fb f hf).frozen 1
    have hmg := setg_mod w1 (G f.name).1 1 (.int .i64 (f.b.length : Int))
    have hne : ¬ bd = (G f.name).1 := fun e => h1.bd_ne hf e.symm
    have hsum := (sumB_putF (f := ⟨f.name, f.b, f.b.length⟩) h.rise).1
    rw [show (⟨f.name, f.b, f.b.length⟩ : Fi).name = f.name from rfl, getF_of_mem h.rise hf] at hsum
    simp only [lenB] at hsum
    have hbk : Blk (w1.setCell ⟨(G f.name).1, 1, none⟩ (.int .i64 (f.b.length : Int))) bd 55 (dcells { d with L := putF d.L ⟨f.name, f.b, f.b.length⟩ } bm) := by
      have := h1.blk.far (p := ⟨(G f.name).1, 1, none⟩) hne (.int .i64 (f.b.length : Int))
      simp only [dcells, show sumB (putF d.L ⟨f.name, f.b, f.b.length⟩) = sumB d.L by omega] at this ⊢
      exact this
    have h2 := h1.file hf (u := (G f.name).2) (b := f.b) (last := f.b.length) (fu := d.fu) (left := d.left) hmg (fun k _ hk => .inr (.inl hk)) (.inl rfl) hbk ((h1.fb f hf).set_ 1 _) ((h1.fo f hf).mod hmg fun k hk e => (h1.own_ne hf hk).2.2 f hf e) (Nat.le_refl _) (Nat.add_le_add_right h.room _) h.lf
    have hcd := done_any h2 hlf
    have hS := (h.fs f hf).1
    have hSd := h.sd
    clear hc h h1 h2 hbk hsum hlf hv
    replace hmg := hmg
    generalize (G f.name).1 = g at *
    go_wp2_with fail
    refine hcd.mono ?_
    rintro e w3 ⟨rfl, h3, m3⟩
    clear hcd
    go_wp2_with fail
    go_ret
    refine ⟨rfl, ⟨bd, bm, D, _, rfl, h3.mono fun k _ hk => ?_⟩, ((x1.mono (G := S) fun _ _ h => h.elim).then_ hmg fun k _ hk => hk ▸ hS).then_ m3 fun k _ hk => hk ▸ hSd⟩
    rcases hk with hk | hk
    · exact .inl hk
    · exact .inr (Nat.le_trans hsz hk)
set_option maxHeartbeats 4000000 in
theorem remove_any (h : Dk S w v d) (x : List UInt8) :
    Calls Tryd.prog 51 #[v, sv x] w fun e w' => e = .returned (ev (removeD d x).2) ∧ Dk (Grow S w) w' v (removeD d x).1 ∧ Mod S w w' := by
  obtain ⟨bd, bm, D, G, rfl, h⟩ := h
  by_cases hb : begD d [x] = 0
  case neg =>
    have hc := find_err h x hb
    have hd : Dk S w (pv bd) d := ⟨bd, bm, D, G, rfl, h⟩
    have hn := n_ne0 hb
    rw [removeD, onF_err _ hb]
    clear h hb
    generalize begD d [x] = n at *
    go_enter Tryd.func51, Tryd.ntmps51
    go_wp2_with fail
    refine hc.mono ?_
    rintro e w1 ⟨rfl, x1⟩
    clear hc
    go_wp2_with fail
    go_ret
    exact ⟨rfl, (hd.ext x1).grow w, x1.mono fun _ _ h => h.elim⟩
  cases hx : getF d.L x with
  | none =>
    have hc := find_none h x hb hx
    have hd : Dk S w (pv bd) d := ⟨bd, bm, D, G, rfl, h⟩
    rw [removeD, onF_none _ hb hx]
    clear h hb hx
    go_enter Tryd.func51, Tryd.ntmps51
    go_wp2_with fail
    refine hc.mono ?_
    rintro e w1 ⟨rfl, x1⟩
    clear hc
    go_wp2_with fail
    go_ret
    exact ⟨rfl, (hd.ext x1).grow w, x1.mono fun _ _ h => h.elim⟩
  | some f =>
    have hf := getF_mem hx
    obtain rfl := getF_name hx
    have hc := find_some h hb hf
    rw [removeD, onF_some _ hb hx]
    have hlf := begD_left hb
    clear hb hx
    have hcd := fun (wx : World) (x1 : Ext w wx) => drop_some (h.mod x1 (fun _ _ _ h => h)) hf
    have hSd := h.sd
    have hSm := h.sm
    clear h
    go_enter Tryd.func51, Tryd.ntmps51
    go_wp2_with fail
    refine hc.mono ?_
    rintro e w1 ⟨rfl, x1⟩
    have hcd' := hcd w1 x1
    clear hc hcd
    go_wp2_with fail
    refine hcd'.mono ?_
    rintro e w2 ⟨rfl, h2, m2⟩
    have hcd := done_any h2 hlf
    clear hcd' h2 hlf
    go_wp2_with fail
    refine hcd.mono ?_
    rintro e w3 ⟨rfl, h3, m3⟩
    clear hcd
    go_wp2_with fail
    go_ret
    refine ⟨rfl, ⟨bd, bm, _, _, rfl, h3.mono fun k _ hk => .inl hk⟩, ((x1.mono (G := S) fun _ _ h => h.elim).then_ m2 fun k _ hk => hk.elim (fun e => e ▸ hSd) fun e => e ▸ hSm).then_ m3 fun k _ hk => hk ▸ hSd⟩
end
end Go.Proofs.YtblfhonfjljndaaDoor
