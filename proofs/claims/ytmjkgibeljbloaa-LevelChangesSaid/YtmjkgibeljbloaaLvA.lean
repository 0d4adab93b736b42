/- level: a file; files in memory; what the laws look at. -/
import Derived.Test.YtmjkgibeljbloaaRecB
import Derived.Test.YtmjkgibeljbloaaOctU
import Derived.Test.YtmjkgibeljbloaaRecIn
import Derived.Test.YtmjkgibeljbloaaStrB
import Derived.BigQuiet
import Derived.Deep.DeepCutAuto
import Derived.Deep.CutBlock
import Derived.Deep.RegionHeld3
import Derived.Laws.Cover1
import Derived.Laws.StructEq
namespace Go.Proofs.Ytmjkgibeljbloaa
open Go.RowKit Go.WideShapes Go.ChangeShapes
set_option maxRecDepth 100000

theorem dtrue {p : Prop} [Decidable p] (h : p) : decide p = true := decide_eq_true h
theorem dfalse {p : Prop} [Decidable p] (h : ¬ p) : decide p = false := decide_eq_false h
theorem sv_size (l : List UInt8) : (⟨l.toArray⟩ : ByteArray).size = l.length := by
  show l.toArray.size = l.length
  simp
theorem ext_cell {w w' : World} (x : Ext w w') {p : Addr} {u : Value} (h : w.cell? p = some u) : w'.cell? p = some u := (x.cell (lt_of_cell h) (fun h => h)).trans h

/- TEXTS IN ORDER -/
theorem less_irr : ∀ x : List UInt8, Op.bytesLess x x = false
  | [] => rfl
  | a :: x => by
    show (decide (a < a) || (a == a && Op.bytesLess x x)) = false
    rw [less_irr x, decide_eq_false (by simp)]
    simp
theorem less_asym : ∀ (x y : List UInt8), x ≠ y → Op.bytesLess x y = !Op.bytesLess y x
  | [], [], h => absurd rfl h
  | [], b :: y, _ => rfl
  | a :: x, [], _ => rfl
  | a :: x, b :: y, h => by
    show (decide (a < b) || (a == b && Op.bytesLess x y)) = !(decide (b < a) || (b == a && Op.bytesLess y x))
    by_cases hab : a = b
    · subst hab
      have hxy : x ≠ y := fun e => h (by rw [e])
      rw [less_asym x y hxy, decide_eq_false (by rw [UInt8.lt_iff_toNat_lt]; omega)]
      simp
    · have hba : ¬ b = a := fun e => hab e.symm
      have h1 : (a == b) = false := by simpa using hab
      have h2 : (b == a) = false := by simpa using hba
      rw [h1, h2]
      simp only [Bool.false_and, Bool.or_false]
      have : a.toNat ≠ b.toNat := fun e => hab (UInt8.toNat_inj.1 e)
      by_cases hl : a < b
      · rw [decide_eq_true hl, decide_eq_false (by rw [UInt8.lt_iff_toNat_lt] at *; omega)]; rfl
      · rw [decide_eq_false hl, decide_eq_true (by rw [UInt8.lt_iff_toNat_lt] at *; omega)]; rfl
theorem less_trans : ∀ (x y z : List UInt8), Op.bytesLess x y = true → Op.bytesLess y z = true → Op.bytesLess x z = true
  | [], [], _, h, _ => by cases h
  | _ :: _, [], _, h, _ => by cases h
  | [], _ :: _, [], _, h => by cases h
  | _ :: _, _ :: _, [], _, h => by cases h
  | [], _ :: _, _ :: _, _, _ => rfl
  | a :: x, b :: y, c :: z, h1, h2 => by
    have e1 : (decide (a < b) || (a == b && Op.bytesLess x y)) = true := h1
    have e2 : (decide (b < c) || (b == c && Op.bytesLess y z)) = true := h2
    show (decide (a < c) || (a == c && Op.bytesLess x z)) = true
    simp only [Bool.or_eq_true, Bool.and_eq_true, decide_eq_true_eq, beq_iff_eq] at *
    rcases e1 with e1 | ⟨rfl, e1⟩
    · left
      rcases e2 with e2 | ⟨rfl, _⟩
      · rw [UInt8.lt_iff_toNat_lt] at *; omega
      · exact e1
    · rcases e2 with e2 | ⟨rfl, e2⟩
      · exact .inl e2
      · exact .inr ⟨rfl, less_trans x y z e1 e2⟩
/-- x is no greater than y. -/
abbrev leT (x y : List UInt8) : Prop := Op.bytesLess y x = false
theorem leT.refl (x : List UInt8) : leT x x := less_irr x
theorem leT_of {x y : List UInt8} (h : Op.bytesLess x y = true) : leT x y := by
  by_cases e : x = y
  · subst e; exact less_irr x
  · have := less_asym x y e
    rw [h] at this
    unfold leT
    cases h2 : Op.bytesLess y x
    · rfl
    · rw [h2] at this; cases this
theorem leT_iff {x y : List UInt8} : leT x y ↔ (Op.bytesLess x y || x == y) = true := by
  by_cases e : x = y
  · subst e; simp [leT, less_irr]
  · have := less_asym x y e
    unfold leT
    cases h2 : Op.bytesLess y x <;> simp [h2, this, e]
theorem less_tot {x y : List UInt8} (h : leT x y) (hne : x ≠ y) : Op.bytesLess x y = true := by
  have := less_asym x y hne
  rw [h] at this
  exact this
theorem leT.trans {x y z : List UInt8} (h : leT x y) (k : leT y z) : leT x z := by
  by_cases e : x = y
  · subst e; exact k
  · by_cases e2 : y = z
    · subst e2; exact h
    · exact leT_of (less_trans _ _ _ (less_tot h e) (less_tot k e2))
theorem lt_le {x y z : List UInt8} (h : Op.bytesLess x y = true) (k : leT y z) : Op.bytesLess x z = true := by
  by_cases e2 : y = z
  · subst e2; exact h
  · exact less_trans _ _ _ h (less_tot k e2)
theorem le_lt {x y z : List UInt8} (h : leT x y) (k : Op.bytesLess y z = true) : Op.bytesLess x z = true := by
  by_cases e2 : x = y
  · subst e2; exact k
  · exact less_trans _ _ _ (less_tot h e2) k
theorem le_tot {x y : List UInt8} (h : ¬ leT x y) : Op.bytesLess y x = true := by
  unfold leT at h
  simpa using h

/- FILES -/
/-- A file. -/
structure Fl where
  id : Int
  lev : Int
  size : Int
  first : List UInt8
  last : List UInt8
instance : DecidableEq Fl := fun a b => decidable_of_iff (a.id = b.id ∧ a.lev = b.lev ∧ a.size = b.size ∧ a.first = b.first ∧ a.last = b.last) ⟨fun ⟨h1, h2, h3, h4, h5⟩ => by cases a; cases b; simp_all, fun h => by rw [h]; exact ⟨rfl, rfl, rfl, rfl, rfl⟩⟩
instance : Inhabited Fl := ⟨⟨0, 0, 0, [], []⟩⟩
abbrev fic (c : Fl) : List Value := [.int .i64 c.id, .int .i64 c.lev, .int .i64 c.size, sv c.first, sv c.last]
abbrev fia (c : Fl) : Array Value := #[.int .i64 c.id, .int .i64 c.lev, .int .i64 c.size, sv c.first, sv c.last]
theorem fic_len (c : Fl) : (fic c).length = 5 := rfl
theorem fic_ok (c : Fl) : ∀ u ∈ fic c, u.oneCell' = true := by
  intro u hu
  simp only [fic, List.mem_cons, List.not_mem_nil, or_false] at hu
  rcases hu with rfl | rfl | rfl | rfl | rfl <;> rfl
abbrev Fs (w : World) (S : Nat → Prop) (v : Value) (L : List Fl) : Prop := Rc fic 5 w S v L
abbrev OwnF (w : World) (v : Value) (L : List Fl) : Prop := OwnR fic 5 w 48 v L
theorem tyF : SliceTyK Try.prog 22 48 (.agg #[.int .i64 0, .int .i64 0, .int .i64 0, .string ⟨#[]⟩, .string ⟨#[]⟩]) 5 56 := ⟨Try.underlying22, by kernel_rfl, rfl, by decide, by decide⟩
def FFits (c : Fl) : Prop := c.first.length ≤ 140737488351232 ∧ c.last.length ≤ 140737488351232
def MFits (L : List Fl) : Prop := (∀ c ∈ L, FFits c) ∧ L.length * 56 ≤ 140737488351232
theorem MFits.at_ {L : List Fl} (h : MFits L) {k : Nat} (hk : k < L.length) : L[k].first.length ≤ 140737488351232 ∧ L[k].last.length ≤ 140737488351232 := h.1 _ (List.getElem_mem _)
theorem Fs.at_ {w : World} {S : Nat → Prop} {A : Option Addr} {L : List Fl} (h : RcAt fic 5 w S A L) {i : Nat} (hi : i < L.length) :
    ∃ ad, A = some ad ∧ S ad.block ∧ w.cell? (ad.add (i * 5)) = some (.int .i64 L[i].id) ∧ w.cell? ⟨(ad.add (i * 5)).block, (ad.add (i * 5)).off + 1, none⟩ = some (.int .i64 L[i].lev) ∧ w.cell? ⟨(ad.add (i * 5)).block, (ad.add (i * 5)).off + 2, none⟩ = some (.int .i64 L[i].size) ∧ w.cell? ⟨(ad.add (i * 5)).block, (ad.add (i * 5)).off + 3, none⟩ = some (sv L[i].first) ∧ w.cell? ⟨(ad.add (i * 5)).block, (ad.add (i * 5)).off + 4, none⟩ = some (sv L[i].last) := by
  obtain ⟨ad, hA, hS, h0⟩ := h i 0 (.int .i64 L[i].id) hi (by omega) rfl
  obtain ⟨ad1, hA1, _, h1⟩ := h i 1 (.int .i64 L[i].lev) hi (by omega) rfl
  obtain ⟨ad2, hA2, _, h2⟩ := h i 2 (.int .i64 L[i].size) hi (by omega) rfl
  obtain ⟨ad3, hA3, _, h3⟩ := h i 3 (sv L[i].first) hi (by omega) rfl
  obtain ⟨ad4, hA4, _, h4⟩ := h i 4 (sv L[i].last) hi (by omega) rfl
  rw [hA] at hA1 hA2 hA3 hA4
  cases hA1
  cases hA2
  cases hA3
  cases hA4
  rw [add_next _ _ _ (by omega)] at h1 h2 h3 h4
  exact ⟨ad, hA, hS, h0, h1, h2, h3, h4⟩
/-- The five cells of a file that lies at the head of block g. -/
def Cell5 (w : World) (g : Nat) (c : Fl) : Prop := w.cell? ⟨g, 0, none⟩ = some (.int .i64 c.id) ∧ w.cell? ⟨g, 1, none⟩ = some (.int .i64 c.lev) ∧ w.cell? ⟨g, 2, none⟩ = some (.int .i64 c.size) ∧ w.cell? ⟨g, 3, none⟩ = some (sv c.first) ∧ w.cell? ⟨g, 4, none⟩ = some (sv c.last)
theorem cell5 {w : World} {g : Nat} {t : TypeId} {c : Fl} (h : Blk w g t (fia c)) : Cell5 w g c := ⟨h.cell 0, h.cell 1, h.cell 2, h.cell 3, h.cell 4⟩
theorem boxedF (w : World) (c : Fl) : Cell5 (w.alloc (.cells (fia c) 48)) w.heap.size c := cell5 (Blk.new w _ _)
theorem boxedF2 (w : World) (c d : Fl) : Cell5 ((w.alloc (.cells (fia c) 48)).alloc (.cells (fia d) 48)) w.heap.size c ∧ Cell5 ((w.alloc (.cells (fia c) 48)).alloc (.cells (fia d) 48)) (w.heap.size + 1) d := by
  have h1 := (Blk.new w 48 (fia c)).alloc (.cells (fia d) 48)
  have h2 := Blk.new (w.alloc (.cells (fia c) 48)) 48 (fia d)
  rw [show (w.alloc (.cells (fia c) 48)).heap.size = w.heap.size + 1 by simp] at h2
  exact ⟨cell5 h1, cell5 h2⟩

theorem eqInF (w : World) (a b : Fl) : (Op.equalIn 10000 48 (.agg (fia a)) (.agg (fia b))).run Try.prog w = .ok (decide (a = b)) w := by
  rw [run_equalIn_agg w 9999 48 _ _ (by kernel_rfl) (by kernel_rfl)]
  simp only [Program.fieldsOf, Try.underlying48]
  obtain ⟨a1, a2, a3, a4, a5⟩ := a
  obtain ⟨b1, b2, b3, b4, b5⟩ := b
  have hd : decide ((⟨a1, a2, a3, a4, a5⟩ : Fl) = ⟨b1, b2, b3, b4, b5⟩) = (decide (a1 = b1) && (decide (a2 = b2) && (decide (a3 = b3) && (decide (a4 = b4) && decide (a5 = b5))))) := by
    rw [Bool.eq_iff_iff]; simp
  rw [hd]
  by_cases h1 : a1 = b1 <;> by_cases h2 : a2 = b2 <;> by_cases h3 : a3 = b3 <;> by_cases h4 : a4 = b4 <;> by_cases h5 : a5 = b5 <;>
    simp [Op.eqFields, part, go_sem, run_equalIn_string w _ 9 _ _ Try.underlying9, run_equalIn_int w _ 3 .i64 .i64 _ _ Try.underlying3, h1, h2, h3, h4, h5]
theorem neqF (w : World) (a b : Fl) : (binOp .neq 48 (.agg (fia a)) (.agg (fia b))).run Try.prog w = .ok (.bool (!decide (a = b))) w := by
  rw [run_neq_struct, eqInF]; rfl
theorem eqF (w : World) (a b : Fl) : (binOp .eql 48 (.agg (fia a)) (.agg (fia b))).run Try.prog w = .ok (.bool (decide (a = b))) w := by
  rw [run_eql_struct, eqInF]; rfl
theorem guardF (w : World) (op : BinOp) (x y : Operand) (xs ys : Array Value) : (eqGuard op 48 x y (.agg xs) (.agg ys)).run Try.prog w = .ok () w :=
  run_eqGuard_agg w op _ x y xs ys (by kernel_rfl)

def wF (L : List Fl) : Nat := (L.map fun c => 1 + c.first.length + c.last.length).sum
theorem wF_cons (a : Fl) (L : List Fl) : wF (a :: L) = 1 + a.first.length + a.last.length + wF L := by simp [wF]
theorem wF_append (L M : List Fl) : wF (L ++ M) = wF L + wF M := by simp [wF]
theorem wF_snoc (L : List Fl) {k : Nat} (h : k < L.length) : wF (L.take (k + 1)) = wF (L.take k) + (1 + L[k].first.length + L[k].last.length) := by
  rw [List.take_succ_eq_append_getElem h, wF_append, wF_cons]; simp [wF]
theorem wF_take (L : List Fl) (k : Nat) : wF (L.take k) ≤ wF L := by
  have := wF_append (L.take k) (L.drop k)
  rw [List.take_append_drop] at this; omega
theorem wF_len (L : List Fl) : L.length ≤ wF L := by
  induction L with
  | nil => simp
  | cons a L ih => rw [wF_cons, List.length_cons]; omega
theorem wF_mem {L : List Fl} {a : Fl} (h : a ∈ L) : 1 + a.first.length + a.last.length ≤ wF L := by
  induction L with
  | nil => cases h
  | cons b L ih =>
    rw [wF_cons]
    rcases List.mem_cons.1 h with rfl | h
    · omega
    · have := ih h; omega
theorem mfits_of {L : List Fl} (h : wF L ≤ 1000000000) : MFits L := ⟨fun c hc => by have := wF_mem hc; exact ⟨by omega, by omega⟩, by have := wF_len L; omega⟩

set_option maxHeartbeats 4000000 in
theorem heavy11_any {w : World} {S : Nat → Prop} {v : Value} {L : List Fl} (h : Fs w S v L) (hf : MFits L) :
    Calls Try.prog 10 #[v] w fun e w' => ∃ q : Bool, e = .returned (.bool q) ∧ (q = false → wF L ≤ 10000 ∧ L.length ≤ 101) ∧ Ext w w' := by
  have hl := hf.2
  obtain ⟨A, c, rfl, h1, h2, h3, h4⟩ := h.open_ fic_len
  go_enter Try.func10, Try.ntmps10
  go_wp2_with fail
  go_loopw [3, 4] (fun n i wr => ∃ k : Nat, k ≤ L.length ∧ i = .int .i64 k ∧ n = .int .i64 (wF (L.take k) : Nat) ∧ Hid (wF (L.take k) ≤ 10000 ∧ k ≤ 101) ∧ Ext w wr) (fun _ i _ => L.length - (intOf i).toNat)
  case atStart => exact ⟨0, by omega, rfl, rfl, Lib.hid (by simp [wF]), Mod.refl _ _⟩
  case round =>
    obtain ⟨k, hk, rfl, rfl, hw0, hxr⟩ := hrel
    by_cases hlt : k < L.length
    · have hbl : decide ((k : Int) < (L.length : Int)) = true := dtrue (by omega)
      obtain ⟨ad, hA, hS, c0, c1, c2, c3, c4⟩ := Fs.at_ (h4.ext hxr) hlt
      subst hA
      obtain ⟨k1, k2⟩ := hf.at_ hlt
      have hsn := wF_snoc L hlt
      obtain ⟨hw, hk2⟩ := hw0.out
      have hi0 : (0 : Int) ≤ (k : Int) := by omega
      have hi1 : (k : Int) < (L.length : Int) := by omega
      generalize L[k] = x at *
      generalize wF (L.take k) = n at *
      have hz1 := sv_size x.first
      have hz2 := sv_size x.last
      have hdw : ∀ m, Ext w (wr.drewN m) := fun m => hxr.drewN m
      by_cases hgt : 10000 < n + 1 + x.first.length + x.last.length
      · have hbg : decide ((10000 : Int) < (n : Int) + 1 + (x.first.length : Int) + (x.last.length : Int)) = true := dtrue (by omega)
        go_wp2_with fail
        go_quiet (fail)
        go_wp2_with fail
        go_ret
        exact ⟨true, rfl, by simp, hdw _⟩
      · have hbg : decide ((10000 : Int) < (n : Int) + 1 + (x.first.length : Int) + (x.last.length : Int)) = false := dfalse (by omega)
        by_cases hk3 : 100 < k
        · have hbk : decide ((100 : Int) < (k : Int)) = true := dtrue (by omega)
          replace hsn := Lib.hid hsn
          go_wp2_with fail
          go_quiet (fail)
          go_wp2_with fail
          go_ret
          exact ⟨true, rfl, by simp, hdw _⟩
        · have hbk : decide ((100 : Int) < (k : Int)) = false := dfalse (by omega)
          replace hsn := Lib.hid hsn
          go_wp2_with fail
          go_quiet (fail)
          go_wp2_with fail
          exact ⟨⟨k + 1, by omega, by go_num, by rw [hsn.out]; congr 1; omega, Lib.hid (by rw [hsn.out]; omega), hdw _⟩, by simp [intOf] <;> omega⟩
    · have hbl : decide ((k : Int) < (L.length : Int)) = false := dfalse (by omega)
      have hw2 : wF L ≤ 10000 ∧ L.length ≤ 101 := by
        have := hw0.out
        rw [List.take_of_length_le (by omega)] at this
        exact ⟨this.1, by omega⟩
      replace hw2 := Lib.hid hw2
      go_wp2_with fail
      go_ret
      exact ⟨false, rfl, fun _ => hw2.out, hxr⟩

set_option maxHeartbeats 4000000 in
theorem files_any {w : World} {S S' : Nat → Prop} {v v' : Value} {L M : List Fl} (h : Fs w S v L) (h' : Fs w S' v' M) :
    Calls Try.prog 17 #[v, v'] w fun e w' => e = .returned (.bool (decide (L = M))) ∧ Ext w w' := by
  obtain ⟨A, c, rfl, h1, h2, h3, h4⟩ := h.open_ fic_len
  obtain ⟨B, d, rfl, j1, j2, j3, j4⟩ := h'.open_ fic_len
  by_cases hl : L.length = M.length
  case neg =>
    have hb : ((L.length : Int) != (M.length : Int)) = true := by rw [bne_iff_ne]; omega
    go_enter Try.func17, Try.ntmps17
    go_wp2_with fail
    go_ret
    exact ⟨by rw [dfalse (fun h => hl (by rw [h]))]; rfl, Mod.refl _ _⟩
  have hb : ((L.length : Int) != (M.length : Int)) = false := by rw [bne_eq_false_iff_eq]; omega
  replace hl := Lib.hid hl
  go_enter Try.func17, Try.ntmps17
  go_wp2_with fail
  go_loopw [5] (fun i wr => ∃ k : Nat, k ≤ L.length ∧ i = .int .i64 k ∧ Hid (L.take k = M.take k) ∧ Ext w wr) (fun i _ => L.length - (intOf i).toNat)
  case atStart => exact ⟨0, Nat.zero_le _, rfl, Lib.hid (by simp), Mod.refl _ _⟩
  case round =>
    obtain ⟨k, hk, rfl, hs, q3⟩ := hrel
    by_cases hlt : k < L.length
    case neg =>
      have hbl : decide ((k : Int) < (L.length : Int)) = false := dfalse (by omega)
      have hres : L = M := by
        have := hs.out
        rwa [List.take_of_length_le (by omega), List.take_of_length_le (by have := hl.out; omega)] at this
      replace hres := Lib.hid hres
      go_wp2_with fail
      go_ret
      exact ⟨by rw [dtrue hres.out]; rfl, q3⟩
    have hbl : decide ((k : Int) < (L.length : Int)) = true := dtrue (by omega)
    have hlm : k < M.length := by have := hl.out; omega
    obtain ⟨ad, hA, hS, c0, c1, c2, c3, c4⟩ := Fs.at_ (h4.ext q3) hlt
    subst hA
    obtain ⟨bd, hB, hT, d0, d1, d2, d3, d4⟩ := Fs.at_ (j4.ext q3) hlm
    subst hB
    have hsn : L.take (k + 1) = M.take (k + 1) ↔ L[k] = M[k] := by
      rw [List.take_succ_eq_append_getElem hlt, List.take_succ_eq_append_getElem hlm, hs.out]
      exact ⟨fun h => List.singleton_inj.1 (List.append_cancel_left h), fun h => by rw [h]⟩
    have hno : L[k] ≠ M[k] → L ≠ M := fun hn he => hn (by subst he; rfl)
    have hi0 : (0 : Int) ≤ (k : Int) := by omega
    have hi1 : (k : Int) < (L.length : Int) := by omega
    have hi2 : (k : Int) < (M.length : Int) := by omega
    generalize L[k] = x at *
    generalize M[k] = y at *
    have hgu := fun wx a b => guardF wx .neq a b (fia x) (fia y)
    have hdw : ∀ m, Ext w (wr.drewN m) := fun m => q3.drewN m
    by_cases hxy : x = y
    · have hs2 := Lib.hid (hsn.2 hxy)
      have hne : ∀ wx, (binOp .neq 48 (.agg (fia x)) (.agg (fia y))).run Try.prog wx = .ok (.bool false) wx := fun wx => by rw [neqF, dtrue hxy]; rfl
      clear hsn hno hxy
      go_wp2_with fail
      go_quiet (fail)
      go_wp2_with fail
      exact ⟨⟨k + 1, by omega, by go_num, hs2, hdw _⟩, by simp [intOf] <;> omega⟩
    · have hne : ∀ wx, (binOp .neq 48 (.agg (fia x)) (.agg (fia y))).run Try.prog wx = .ok (.bool true) wx := fun wx => by rw [neqF, dfalse hxy]; rfl
      have hno2 := Lib.hid (hno hxy)
      clear hsn hno hxy
      go_wp2_with fail
      go_quiet (fail)
      go_wp2_with fail
      go_ret
      exact ⟨by rw [dfalse hno2.out]; rfl, hdw _⟩
end Go.Proofs.Ytmjkgibeljbloaa
