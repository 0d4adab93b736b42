/- msg: attributes one behind the other, as they are read. -/
import Derived.Test.YtoockogceobfgaaMdCm
import Derived.Test.YtoockogceobfgaaRecInm
import Derived.Lib.Bytealg
import Derived.Deep.RegionHeld3
import Derived.Deep.QuietTactic
import Derived.BigQuiet
import Derived.Test.YtoockogceobfgaaBerGm
import Derived.Laws.ResultCell
import Derived.Shelf.Spec.SlicesGrow
namespace Go.Proofs.Ytoockogceobfgaa
open Go.RowKit
set_option maxRecDepth 100000

theorem tyAt : SliceTyK Try.prog 23 55 (.agg #[.string ⟨#[]⟩, .slice none 0 0]) 2 40 := ⟨Try.underlying23, by kernel_rfl, rfl, by decide, by decide⟩
/-- Attributes of a call's own, the values of each too. -/
structure OAt (w : World) (v : Value) (rs : List AtV) (L : List Att) : Prop where
  own : OwnR atc 2 w 55 v rs
  len : rs.length = L.length
  els : ∀ (k : Nat) (r : AtV) (a : Att), rs[k]? = some r → L[k]? = some a → r.1 = a.typ ∧ Own w 9 r.2 (a.vals.map sv)
theorem own_neR {w : World} {e e' : TypeId} {v v' : Value} {xs : List AtV} {ys : List Value} (h : OwnR atc 2 w e v xs) (h' : Own w e' v' ys) (hne : e' ≠ e) {b : Nat} (hk : own v b) (hk' : own v' b) : False := by
  rcases h.2 with ⟨rfl, _⟩ | ⟨g, cap, cur, rfl, _, hh, _⟩
  · cases hk
  · have : g = b := Option.some.inj hk
    subst this
    exact h'.ne_blk (t := e) hh hne hk'
section
variable {w w' : World} {v v' : Value} {rs : List AtV} {L : List Att} {r : AtV} {a : Att}
theorem OAt.nil (w : World) : OAt w (.slice none 0 0) [] [] := ⟨OwnR.nil _ _ _ _, rfl, fun k r a hr => by simp at hr⟩
theorem OAt.ext (h : OAt w v rs L) (hm : Ext w w') : OAt w' v rs L := ⟨h.own.ext hm, h.len, fun k r a hr ha => ⟨(h.els k r a hr ha).1, (h.els k r a hr ha).2.mod hm (fun _ _ h => h)⟩⟩
theorem OAt.ats (h : OAt w v rs L) : Ats w v L := ⟨rs, h.own.rc.mono (fun _ _ _ => trivial), h.len, fun k r a hr ha => ⟨(h.els k r a hr ha).1, (h.els k r a hr ha).2.sl.mono (fun _ _ _ => trivial)⟩⟩
theorem OAt.snoc (h : OAt w v rs L) (h1 : OwnR atc 2 w' 55 v' (rs ++ [r])) (h2 : Mod (Go.Proofs.Ytoockogceobfgaa.own v) w w') (ht : r.1 = a.typ) (hx : Own w 9 r.2 (a.vals.map sv)) : OAt w' v' (rs ++ [r]) (L ++ [a]) := by
  have ne : ∀ {y : Value} {m : List Value}, Own w 9 y m → Own w' 9 y m := fun hy => hy.mod h2 (fun k hk hv => own_neR h.own hy (by decide) hv hk)
  refine ⟨h1, by rw [List.length_append, List.length_append, h.len]; rfl, fun k y m hy hm => ?_⟩
  by_cases hk : k < rs.length
  · rw [List.getElem?_append_left hk] at hy
    rw [List.getElem?_append_left (by rw [← h.len]; exact hk)] at hm
    exact ⟨(h.els k y m hy hm).1, ne (h.els k y m hy hm).2⟩
  · rw [List.getElem?_append_right (by omega)] at hy
    rw [List.getElem?_append_right (by rw [← h.len]; omega), ← h.len] at hm
    generalize k - rs.length = j at *
    cases j with
    | zero =>
      simp at hy hm
      subst hy; subst hm
      exact ⟨ht, ne hx⟩
    | succ j => simp at hy
end
/-- An item as an attribute that it is. -/
def aOf (x : UInt8 × List UInt8) : Att := (attrD x.1 x.2).getD ⟨[], []⟩
/-- Attributes and nothing else. -/
def attrsD (l : List UInt8) : Option (List Att) := if (itsB l).2 = 0 ∧ ∀ x ∈ (itsB l).1, (attrD x.1 x.2).isSome = true then some ((itsB l).1.map aOf) else none

set_option maxHeartbeats 8000000 in
theorem attrsOf_any {w : World} {S : Nat → Prop} {v : Value} {l : List UInt8} (h : Bs w S v l) (hl : l.length ≤ 100000) :
    Calls Try.prog 66 #[v] w fun e w' => ∃ v' rs L, e = .returned (.tuple #[v', .bool (attrsD l).isSome]) ∧ OAt w' v' rs L ∧ Fresh w.heap.size v' ∧ (∀ r ∈ rs, Fresh w.heap.size r.2) ∧ Ext w w' ∧ (∀ A, attrsD l = some A → L = A) := by
  obtain ⟨r, hr⟩ : ∃ r, r = attrsD l := ⟨_, rfl⟩
  rw [← hr]
  unfold attrsD at hr
  have hcall := alls_any h hl
  have hLn := itsB_len l
  have hLe := @itsB_le l
  obtain ⟨A0, c0, rfl, -, -, -, -⟩ := h.open_
  change Calls Try.prog 64 #[.slice A0 l.length c0] w fun e w' => ∃ v', e = .returned (.tuple #[v', .int .i64 ((itsB l).2 : Nat)]) ∧ Its w' 112 v' (itsB l).1 ∧ Ext w w' at hcall
  generalize itsB l = o at hcall hLn hr hLe
  obtain ⟨L, z⟩ := o
  simp only at hcall hLn hr hLe
  replace hr := Lib.hid hr
  have hLe : ∀ x ∈ L, x.2.length ≤ 100000 := fun x hx => by have := @hLe x hx; omega
  clear h
  go_enter Try.func66, Try.ntmps66
  go_wp2_with fail
  refine hcall.mono ?_
  clear hcall
  rintro e w1 ⟨v1, rfl, g1, g2⟩
  obtain ⟨A, c, rfl⟩ := g1.shape
  by_cases hz : z = 0
  · subst hz
    obtain ⟨n, hn⟩ : ∃ n, n = L.length := ⟨_, rfl⟩
    have hn2 := Lib.hid hn
    have hax : ∀ (wx : World), Ext w1 wx → ∀ k, (hk : k < L.length) → ∃ ad x, A = some ad ∧ wx.cell? (ad.add (k * 2)) = some (.int .u8 (L[k].1.toNat : Int)) ∧ wx.cell? ⟨(ad.add (k * 2)).block, (ad.add (k * 2)).off + 1, none⟩ = some x ∧ Bs wx (fun _ => True) x L[k].2 := fun wx hx k hk => by
      obtain ⟨ad, x, e1, e2, e3, e4⟩ := (g1.ext hx).at_ hk
      exact ⟨ad, x, e1, e2, e3, e4.mono (fun _ _ _ => trivial)⟩
    clear g1
    rw [← hn] at hLn ⊢
    clear hn
    go_wp2_with fail
    go_loopw [6, 20] (fun v i wr => ∃ (k : Nat) (rs : List AtV), i = .int .i64 k ∧ k ≤ n ∧ OAt wr v rs ((L.take k).map aOf) ∧ Fresh w1.heap.size v ∧ (∀ r ∈ rs, Fresh w1.heap.size r.2) ∧ Ext w1 wr ∧ (∀ x ∈ L.take k, (attrD x.1 x.2).isSome = true)) (fun _ i _ => n - (intOf i).toNat)
    case atStart => exact ⟨0, [], rfl, Nat.zero_le _, OAt.nil _, fresh_nil _ _ _, by simp, Mod.refl _ _, by simp⟩
    case round =>
      obtain ⟨k, rs, rfl, hk, ho, hf, hfr, hx1, h4⟩ := hrel
      by_cases hlt : k < n
      · have hb : decide ((k : Int) < (n : Int)) = true := dtrue (by omega)
        have hnn := hn2.out
        obtain ⟨ad, x, hA, q0, q1, hy⟩ := hax wr hx1 k (by omega)
        subst hA
        have htk : L.take (k + 1) = L.take k ++ [L[k]'(by omega)] := List.take_succ_eq_append_getElem (by omega)
        have hm4 : L[k]'(by omega) ∈ L := List.getElem_mem _
        generalize L[k]'(by omega) = it at *
        obtain ⟨tg, bd⟩ := it
        simp only at q0 hy
        have hbl : bd.length ≤ 100000 := hLe _ hm4
        have hk0 : (0 : Int) ≤ (k : Int) := by omega
        have hk1 : (k : Int) < (n : Int) := by omega
        obtain ⟨Ay, cy, rfl, -, -, -, -⟩ := hy.open_
        have hrsl : rs.length = k := by rw [ho.len, List.length_map, List.length_take]; omega
        have hn1 := Lib.hid (show (rs.length + 1) * 40 ≤ 140737488355328 by omega)
        clear hnn hax hrsl
        have xa := (Mod.refl (fun _ => False) wr).alloc (.cells #[.int .u8 (tg.toNat : Int), .slice Ay bd.length cy] 112)
        have hcall := attrOf_any tg (hy.ext xa) hbl
        have hmp := Lib.hid (show (L.take (k + 1)).map aOf = (L.take k).map aOf ++ [aOf (tg, bd)] by rw [htk, List.map_append]; rfl)
        clear hy
        go_wp2_with fail
        refine hcall.mono ?_
        clear hcall
        rintro e w5 ⟨T, vb, vs, rfl, k1, k2, k3, k4⟩
        have x5 := ext_trans xa k3
        have xb := (Mod.refl (fun _ => False) w5).alloc (.cells #[sv T, vb] 55)
        have BB := Blk.new w5 55 #[sv T, vb]
        have o5 := ho.ext (ext_trans x5 xb)
        have kb1 := k1.alloc (.cells #[sv T, vb] 55)
        have hfb : Fresh w1.heap.size vb := fresh_le k2 (ext_trans hx1 xa).size
        obtain ⟨Av, cv, ev⟩ := k1.shape
        rw [List.length_map] at ev
        subst ev
        have y5 := ext_trans (ext_trans hx1 x5) xb
        clear k1 k2 k3 xa x5
        cases hq : attrD tg bd with
        | none =>
          have hrr := hr.out
          rw [if_neg (fun g => by have := g.2 _ hm4; simp only [hq] at this; cases this)] at hrr
          subst hrr
          clear hm4 htk BB o5 kb1 h4
          go_wp2_with fail
          go_ret2
          exact ⟨_, [], [], rfl, OAt.nil _, fresh_nil _ _ _, by simp, ext_trans g2 y5, fun A hA => by cases hA⟩
        | some a =>
          obtain ⟨rfl, rfl⟩ := k4 a hq
          have ha : aOf (tg, bd) = a := by unfold aOf; simp only [hq]; rfl
          have h4' : ∀ x ∈ L.take (k + 1), (attrD x.1 x.2).isSome = true := by
            rw [htk]
            intro x hx
            rcases List.mem_append.1 hx with hx | hx
            · exact h4 x hx
            · rw [List.mem_singleton.1 hx]; simp only [hq]; rfl
          clear hm4 htk h4 k4
          go_upto_region 11 with fail
          obtain ⟨wz, hwz⟩ : ∃ y, y = w5.alloc (.cells #[sv a.typ, .slice Av a.vals.length cv] 55) := ⟨_, rfl⟩
          rw [← hwz] at BB o5 kb1 y5 xb ⊢
          replace hwz := Lib.hid hwz
          have b0 : _ = some _ := Blk.cell BB 0
          have b1 : _ = some _ := Blk.cell BB 1
          go_wp2_with ((with_reducible show wpList _ _ _ (⟨some 34, _, _, _, _, _⟩ :: _) _ _); refine wp_appR (x := ((a.typ, Value.slice Av a.vals.length cv) : AtV)) tyAt atc_len o5.own rfl atc_ok hn1.out rfl (.tmp 31) (.tmp 33) rfl rfl rfl ?_; intro v9 w9 m1 m2 m3)
          have hf9 := Next.fresh m3 hf y5.size
          have o9 := o5.snoc m1 m2 rfl kb1
          have h9 := hmp.out
          rw [ha] at h9
          exact ⟨⟨k + 1, _, by go_num, by omega, by rw [h9]; exact o9, hf9, fun r hr => by rcases List.mem_append.1 hr with hr | hr; exact hfr r hr; rw [List.mem_singleton.1 hr]; exact hfb, y5.trans m2 (fun _ _ h => h) (fun b hb h => by have := hf b h; omega), h4'⟩, by simp [intOf] <;> omega⟩
      · have hb : decide ((k : Int) < (n : Int)) = false := dfalse (by omega)
        have hkn : k = n := by omega
        subst hkn
        have hrr := hr.out
        have hnn := hn2.out
        rw [List.take_of_length_le (show L.length ≤ k by omega)] at h4 ho
        rw [if_pos ⟨trivial, h4⟩] at hrr
        subst hrr
        clear hax hnn
        obtain ⟨Ao, co, e1⟩ := ho.own.shape
        rw [ho.len, List.length_map] at e1
        subst e1
        clear hr
        have hfr' : ∀ r ∈ rs, Fresh w.heap.size r.2 := fun r hr => fresh_le (hfr r hr) g2.size
        clear h4
        go_wp2_with fail
        go_ret2
        exact ⟨_, rs, _, rfl, ho, fresh_le hf g2.size, hfr', ext_trans g2 hx1, fun A hA => by cases hA; rfl⟩
  · have hrr := hr.out
    rw [if_neg (fun g => hz g.1)] at hrr
    subst hrr
    have hb : ((z : Int) != 0) = true := bne_iff_ne.2 (by omega)
    go_wp2_with fail
    go_ret2
    exact ⟨_, [], [], rfl, OAt.nil _, fresh_nil _ _ _, by simp, g2, fun A hA => by cases hA⟩
end Go.Proofs.Ytoockogceobfgaa
namespace Go.Proofs.Ytoockogceobfgaa
open Go.RowKit
set_option maxRecDepth 100000

theorem idx_mem (l : List UInt8) (b : UInt8) : decide ((0 : Int) ≤ Lib.indexByte l b) = decide (b ∈ l) := by
  apply decide_eq_decide.2
  induction l with
  | nil => simp [Lib.indexByte]
  | cons a l ih =>
    have hge := Lib.indexByte_ge l b
    unfold Lib.indexByte
    by_cases h : a = b
    · simp [h]
    · rw [if_neg (by simpa using h)]
      by_cases h2 : Lib.indexByte l b = -1
      · rw [if_pos (by simpa using h2)]
        rw [h2] at ih
        simp only [List.mem_cons]
        constructor
        · intro h3; omega
        · rintro (h3 | h3)
          · exact absurd h3.symm h
          · have := ih.2 h3; omega
      · rw [if_neg (by simpa using h2)]
        simp only [List.mem_cons]
        constructor
        · intro _; exact .inr (ih.1 (by omega))
        · rintro (h3 | h3)
          · exact absurd h3.symm h
          · have := ih.2 h3; omega

/-- A digit of sixteen. -/
def digB (b : UInt8) : Option UInt8 := if 48 ≤ b.toNat ∧ b.toNat ≤ 57 then some (b - 48) else if 97 ≤ b.toNat ∧ b.toNat ≤ 102 then some (b - 97 + 10) else if 65 ≤ b.toNat ∧ b.toNat ≤ 70 then some (b - 65 + 10) else none
theorem step_mod {w : World} {g : Nat} (u : Value) : Mod (fun b => b = g) w (w.setCell ⟨g, 1, none⟩ u) := (Mod.refl (fun b => b = g) w).setCell (p := ⟨g, 1, none⟩) (fun _ => rfl) u

end Go.Proofs.Ytoockogceobfgaa
namespace Go.Proofs.Ytoockogceobfgaa
open Go.RowKit
set_option maxRecDepth 100000

/-- What stands behind blanks. -/
def skipB : List UInt8 → List UInt8
  | [] => []
  | b :: l => if b = 32 then skipB l else b :: l
/-- How far a reader has come. -/
def rdAt (w : World) (g : Nat) : Nat := (intOf ((w.cell? ⟨g, 1, none⟩).getD undef)).toNat
end Go.Proofs.Ytoockogceobfgaa
namespace Go.Proofs.Ytoockogceobfgaa
open Go.RowKit
set_option maxRecDepth 100000

/-- What may stand behind a stroke. -/
def mayB : List UInt8 := [44, 43, 34, 92, 60, 62, 59, 35, 61, 32]
/-- What stands behind a stroke, and what is left. -/
def escR : List UInt8 → Option (UInt8 × List UInt8)
  | [] => none
  | c :: l => if c ∈ mayB then some (c, l) else (digB c).bind fun x => l.head?.bind fun d => (digB d).map fun y => (x <<< 4 ||| y, l.tail)
theorem ext_mod {F : Nat → Prop} {a b : World} (h : Ext a b) : Mod F a b := h.mono (fun _ _ h => h.elim)
theorem digB_lt {b x : UInt8} (h : digB b = some x) : x.toNat < 16 := by
  have h8 := b.toNat_lt
  unfold digB at h
  split at h
  · rename_i h1; cases h; rw [UInt8.toNat_sub, show (48 : UInt8).toNat = 48 from rfl]; omega
  · split at h
    · cases h; rw [UInt8.toNat_add, UInt8.toNat_sub, show (97 : UInt8).toNat = 97 from rfl, show (10 : UInt8).toNat = 10 from rfl]; omega
    · split at h
      · cases h; rw [UInt8.toNat_add, UInt8.toNat_sub, show (65 : UInt8).toNat = 65 from rfl, show (10 : UInt8).toNat = 10 from rfl]; omega
      · cases h
theorem hilo_eq (x y : UInt8) (hx : x.toNat < 16) (hy : y.toNat < 16) : ((x <<< 4 ||| y).toNat : Int) = (x.toNat : Int) * 16 + (y.toNat : Int) := by
  have e : (x <<< 4 ||| y).toNat = x.toNat * 16 + y.toNat := by
    have h := fun (a b : Fin 16) => (show ((UInt8.ofNat a.1) <<< 4 ||| UInt8.ofNat b.1).toNat = a.1 * 16 + b.1 from by revert a b; decide)
    have h1 := h ⟨x.toNat, hx⟩ ⟨y.toNat, hy⟩
    simpa using h1
  omega

theorem bits_eq (x y : UInt8) (hx : x.toNat < 16) (hy : y.toNat < 16) : bits BinOp.or IntKind.u8 ((x.toNat : Int) * 16) (y.toNat : Int) = ((x <<< 4 ||| y).toNat : Int) := by
  rw [hilo_eq x y hx hy]
  have h := fun (a b : Fin 16) => (show bits BinOp.or IntKind.u8 ((a.1 : Int) * 16) (b.1 : Int) = (a.1 : Int) * 16 + (b.1 : Int) from by revert a b; decide)
  exact h ⟨x.toNat, hx⟩ ⟨y.toNat, hy⟩

end Go.Proofs.Ytoockogceobfgaa
namespace Go.Proofs.Ytoockogceobfgaa
open Go.RowKit
set_option maxRecDepth 100000

/-- What doesn't stand by itself in a value. -/
def sepB : List UInt8 := [44, 43, 34, 92, 60, 62, 59]
def valF : Nat → List UInt8 → List UInt8 → Nat → Option (List UInt8 × List UInt8)
  | 0, _, _, _ => none
  | _ + 1, [], out, n => some (out.take n, [])
  | f + 1, b :: l, out, n =>
    if b = 44 then some (out.take n, b :: l)
    else if b = 92 then (escR l).bind fun p => valF f p.2 (out ++ [p.1]) (out.length + 1)
    else if b ∈ sepB then none
    else valF f l (out ++ [b]) (if b = 32 then n else out.length + 1)
/-- A value with the blanks around it, and what is left. -/
def valueB (l : List UInt8) : Option (List UInt8 × List UInt8) := valF ((skipB l).length + 1) (skipB l) [] 0

theorem own_shape1 {w : World} {e : TypeId} {v : Value} {l : List UInt8} {b : UInt8} (h : Own w e v ((l ++ [b]).map bv)) : ∃ A c, v = .slice A (l.length + 1) c := by
  obtain ⟨A, c, h⟩ := h.shape
  exact ⟨A, c, by rw [h]; simp⟩

end Go.Proofs.Ytoockogceobfgaa
namespace Go.Proofs.Ytoockogceobfgaa
open Go.RowKit
set_option maxRecDepth 100000

def typP (b : UInt8) : Bool := decide (typN b.toNat)
/-- A type and a value, and what is left. -/
def partR (l : List UInt8) : Option ((List UInt8 × List UInt8) × List UInt8) :=
  if isTyp ((skipB l).takeWhile typP) then
    match skipB ((skipB l).dropWhile typP) with
    | 61 :: l3 => (valueB l3).bind fun p => if p.1 = [] then none else some (((skipB l).takeWhile typP, p.1), p.2)
    | _ => none
  else none
def Tk (s : List UInt8) (a j : Nat) : Prop := (s.drop a).takeWhile typP = (s.drop a).take (j - a) ++ (s.drop j).takeWhile typP ∧ (s.drop a).dropWhile typP = (s.drop j).dropWhile typP
theorem Tk.start (s : List UInt8) (a : Nat) : Tk s a a := ⟨by simp, rfl⟩
theorem Tk.next {s : List UInt8} {a j : Nat} (h : Tk s a j) (ha : a ≤ j) (hj : j < s.length) (hp : typP s[j] = true) : Tk s a (j + 1) := by
  obtain ⟨h1, h2⟩ := h
  have hd := List.drop_eq_getElem_cons hj
  refine ⟨?_, ?_⟩
  · rw [h1, hd, List.takeWhile_cons, if_pos hp]
    have ht : (s.drop a).take (j + 1 - a) = (s.drop a).take (j - a) ++ [s[j]] := by
      rw [show j + 1 - a = (j - a) + 1 by omega, List.take_succ_eq_append_getElem (by rw [List.length_drop]; omega), List.getElem_drop]
      congr 2
      congr 1
      omega
    rw [ht, List.append_assoc]
    rfl
  · rw [h2, hd, List.dropWhile_cons, if_pos hp]
theorem Tk.stop {s : List UInt8} {a j : Nat} (h : Tk s a j) (hp : ∀ h : j < s.length, typP s[j] = false) : (s.drop a).takeWhile typP = (s.drop a).take (j - a) ∧ (s.drop a).dropWhile typP = s.drop j := by
  obtain ⟨h1, h2⟩ := h
  by_cases hj : j < s.length
  · have hd := List.drop_eq_getElem_cons hj
    have := hp hj
    constructor
    · rw [h1, hd, List.takeWhile_cons, if_neg (by rw [this]; decide), List.append_nil]
    · rw [h2, hd, List.dropWhile_cons, if_neg (by rw [this]; decide)]
  · have hd : s.drop j = [] := List.drop_of_length_le (by omega)
    constructor
    · rw [h1, hd, List.takeWhile_nil, List.append_nil]
    · rw [h2, hd, List.dropWhile_nil]

theorem ext_sv (s : List UInt8) (a j : Nat) : (⟨s.toArray⟩ : ByteArray).extract a j = ⟨((s.drop a).take (j - a)).toArray⟩ := by
  apply ByteArray.ext
  simp [ByteArray.data_extract]
theorem results_cell_row2 {P : Program} {fn : Func} {p u : Tmp} {ty : TypeId} (h : fn.results = #[.cell p ty, .tmp u]) (tmps : Array Value) (w : World) (g : Nat) (t : TypeId) (cs : Array Value) (fr : Nat × Nat) (d : TypeDesc)
    (hp : tmps.getD p undef = .pointer (some ⟨g, 0, none⟩)) (hg : w.heap[g]? = some (.cells cs t fr))
    (hu : P.underlying ty = some d) (hd : (match d with | .struct _ | .array _ _ => true | _ => false) = true) (hi : (P.info? ty).map (·.size) = some cs.size) :
    (results fn tmps).run P w = .ok (.tuple #[.agg cs, tmps.getD u undef]) w := by
  have hp' : tmps[p]?.getD undef = .pointer (some ⟨g, 0, none⟩) := by simpa using hp
  rw [results_cell_tmp h]
  simp [hp', asAddr, Result.andThen, run_loadVar_row w g t ty cs fr d hg hu hd hi]

end Go.Proofs.Ytoockogceobfgaa
namespace Go.Proofs.Ytoockogceobfgaa
open Go.RowKit
set_option maxRecDepth 100000

/-- A request of nothing. -/
abbrev z21 : Array Value := #[.int .i64 0, .int .i64 0, .string ⟨#[]⟩, .string ⟨#[]⟩, .int .i64 0, .int .i64 0, .int .i64 0, .string ⟨#[]⟩, .string ⟨#[]⟩, .slice none 0 0, .slice none 0 0, .slice none 0 0, .slice none 0 0, .slice none 0 0, .string ⟨#[]⟩, .bool false, .bool false, .string ⟨#[]⟩, .string ⟨#[]⟩, .string ⟨#[]⟩, .int .i64 0]
set_option maxHeartbeats 8000000 in
theorem dec_err_any {w : World} {S : Nat → Prop} {v : Value} {l : List UInt8} {k : Nat} (h : Bs w S v l) (hl : l.length ≤ 100000) (he : (bnext l).2.2.2 = k) (hk : k ≠ 0) :
    Calls Try.prog 47 #[v] w fun e w' => e = .returned (.tuple #[.agg z21, .int .i64 (k : Int)]) ∧ Ext w w' := by
  obtain ⟨w2, hw2⟩ : ∃ x, x = w.alloc (.cells z21 84) := ⟨_, rfl⟩
  obtain ⟨q, hq⟩ : ∃ q, q = w.heap.size := ⟨_, rfl⟩
  have x2 : Ext w w2 := by rw [hw2]; exact (Mod.refl _ w).alloc _
  have BQ : Blk w2 q 84 z21 := by rw [hw2, hq]; exact Blk.new w _ _
  have hn := bnext_any (h.ext x2) (by omega)
  have hqn : ¬ q < w.heap.size := by omega
  replace hw2 := Lib.hid hw2
  replace hq := Lib.hid hq
  obtain ⟨A, c, rfl, -, -, -, -⟩ := h.open_
  generalize bnext l = o at hn he
  obtain ⟨t, bd, rs, k2⟩ := o
  simp only at hn he
  subst he
  have hb : ((k2 : Int) != 0) = true := bne_iff_ne.2 (by omega)
  clear h
  go_enter Try.func47, Try.ntmps47
  go_upto_region 1 with fail
  rw [← hw2.out, ← hq.out]
  clear hw2 hq
  go_wp2_with fail
  refine hn.mono ?_
  rintro e w3 ⟨v1, v2, rfl, o1, o2, -, -, x3⟩
  have BQ3 := BQ.mod x3 (fun h => h)
  have z3 := ext_trans x2 x3
  clear hn BQ x2 x3
  clear o1 o2
  go_wp2_with ((with_reducible show wpList _ _ _ (⟨none, .store 84 _ _, _, _, _, _⟩ :: _) _ _); refine wpList_store_row rfl 84 (.tmp 2) (.tmp 19) rfl _ z21 rfl rfl _ _ BQ3 size21 rfl (by simp [Value.oneCell']) ?_)
  refine bodyPost_ret (results_cell_row2 Try.results47 _ _ _ _ _ _ _ rfl (BQ3.setRow z21) Try.underlying84 rfl (by exact size21)) rfl ?_
  exact ⟨rfl, z3.setRow (fun h => absurd h hqn) _⟩
set_option maxHeartbeats 8000000 in
theorem dec_rest_any {w : World} {S : Nat → Prop} {v : Value} {l bd rs : List UInt8} (h : Bs w S v l) (hl : l.length ≤ 100000) (he : bnext l = (48, bd, rs, 0)) (hr : rs ≠ []) :
    Calls Try.prog 47 #[v] w fun e w' => e = .returned (.tuple #[.agg z21, .int .i64 3]) ∧ Ext w w' := by
  obtain ⟨w2, hw2⟩ : ∃ x, x = w.alloc (.cells z21 84) := ⟨_, rfl⟩
  obtain ⟨q, hq⟩ : ∃ q, q = w.heap.size := ⟨_, rfl⟩
  have x2 : Ext w w2 := by rw [hw2]; exact (Mod.refl _ w).alloc _
  have BQ : Blk w2 q 84 z21 := by rw [hw2, hq]; exact Blk.new w _ _
  have hn := bnext_any (h.ext x2) (by omega)
  have hqn : ¬ q < w.heap.size := by omega
  replace hw2 := Lib.hid hw2
  replace hq := Lib.hid hq
  obtain ⟨A, c, rfl, -, -, -, -⟩ := h.open_
  rw [he] at hn
  have hrl : 0 < rs.length := List.length_pos_iff.2 hr
  have ht : ((48 : UInt8).toNat : Int) = 48 := rfl
  have b1 : decide ((rs.length : Int) > 0) = true := dtrue (by omega)
  have b2 : decide ((0 : Int) < (rs.length : Int)) = true := dtrue (by omega)
  have b3 : decide (0 < rs.length) = true := dtrue hrl
  clear h he hr
  go_enter Try.func47, Try.ntmps47
  go_upto_region 1 with fail
  rw [← hw2.out, ← hq.out]
  clear hw2 hq
  go_wp2_with fail
  refine hn.mono ?_
  rintro e w3 ⟨v1, v2, rfl, o1, o2, -, -, x3⟩
  have BQ3 := BQ.mod x3 (fun h => h)
  have z3 := ext_trans x2 x3
  clear hn BQ x2 x3
  obtain ⟨A1, c1, e1⟩ := o1.shape
  obtain ⟨A2, c2, e2⟩ := o2.shape
  rw [List.length_map] at e1 e2
  subst e1
  subst e2
  clear o1 o2
  go_wp2_with ((with_reducible show wpList _ _ _ (⟨none, .store 84 _ _, _, _, _, _⟩ :: _) _ _); refine wpList_store_row rfl 84 (.tmp 2) (.tmp 28) rfl _ z21 rfl rfl _ _ BQ3 size21 rfl (by simp [Value.oneCell']) ?_)
  refine bodyPost_ret (results_cell_row2 Try.results47 _ _ _ _ _ _ _ rfl (BQ3.setRow z21) Try.underlying84 rfl (by exact size21)) rfl ?_
  exact ⟨rfl, z3.setRow (fun h => absurd h hqn) _⟩
end Go.Proofs.Ytoockogceobfgaa
namespace Go.Proofs.Ytoockogceobfgaa
open Go.RowKit
set_option maxRecDepth 100000

def growL_ren : Go.Shelf.Ren := ⟨fun | 4 => 87 | n => n, fun | 22 => 26 | 25 => 5 | 3 => 3 | 4 => 4 | 9 => 9 | 20 => 20 | 0 => 0 | n => n, fun | n => n⟩
theorem growL : Go.Proofs.Lays8.n4 Try.prog growL_ren := {
  mixed := by kernel_rfl
  f4 := ⟨Try.f87.name, by decide, Try.func87.trans (congrArg some (by kernel_rfl))⟩
  t0 := Try.underlying0
  a0 := Try.isAgg0
  z0 := Try.sizeOf0
  v0 := Try.zeroValue0
  t3 := Try.underlying3
  a3 := Try.isAgg3
  z3 := Try.sizeOf3
  v3 := Try.zeroValue3
  t4 := Try.underlying4
  a4 := Try.isAgg4
  z4 := Try.sizeOf4
  v4 := Try.zeroValue4
  t9 := Try.underlying9
  a9 := Try.isAgg9
  z9 := Try.sizeOf9
  v9 := Try.zeroValue9
  t20 := Try.underlying20
  a20 := Try.isAgg20
  z20 := Try.sizeOf20
  v20 := Try.zeroValue20
  t22 := Try.underlying26
  a22 := Try.isAgg26
  z22 := Try.sizeOf26
  v22 := Try.zeroValue26 }

theorem grow_any {w : World} {n : Nat} (h0 : 0 < n) (hn : n ≤ 1000000) :
    Calls Try.prog 87 #[.slice none 0 0, .int .i64 n] w fun e w' => ∃ v', e = .returned v' ∧ Own w' 5 v' ([] : List Value) ∧ Fresh w.heap.size v' ∧ Ext w w' := by
  obtain ⟨i, hi, hz0, hz1, hz2⟩ := info_parts (tyB).hi
  have h := Any8.slices_Grow_grow growL i (.int .u8 0) hi hz0 (by omega) none 0 0 n [] w (Nat.le_refl _) (by omega) (by rw [hz2]; omega) (by omega) (by simp) (fun _ => rfl) (fun a h => by cases h)
  refine Calls.mono h ?_
  rintro e w' ⟨rfl, rfl⟩
  have hge := grownCap_ge w (0 + n) 0 (growL_ren.t 25)
  have hle := grownCap_le_maxLen w (0 + n) 0 (growL_ren.t 25) (by simp only [maxLen]; omega)
  generalize grownCap w (0 + n) 0 (growL_ren.t 25) = G at *
  obtain ⟨arr, ha⟩ : ∃ a, a = (([] : List Value).toArray ++ Builtin.zeroCells (Value.int IntKind.u8 0).cells (0 + n - 0) ++ Builtin.zeroCells (Value.int IntKind.u8 0).cells (G - (0 + n))) := ⟨_, rfl⟩
  have hs : arr.size = G := by
    rw [ha]
    simp only [Array.size_append, size_zeroCells, Value.cells]
    simp
    omega
  rw [← ha]
  have h1 := Own.lit w.drew 5 arr.toList (by rw [Array.length_toList, hs]; exact hle)
  have h2 := h1.begin (m := 0) (Nat.zero_le _)
  rw [Array.length_toList, hs] at h2
  exact ⟨_, rfl, h2, fun k hk => by have : w.heap.size = k := Option.some.inj hk; omega, (Mod.refl _ w).drew.alloc _⟩

set_option maxHeartbeats 4000000 in
theorem concat_any {w : World} {S : Nat → Prop} {y : Value} {L : List (List UInt8)} (hy : Rw w S y L) (hp : 0 < L.flatten.length) (hl : L.flatten.length ≤ 65536) :
    Calls Try.prog 74 #[y] w fun e w' => ∃ v', e = .returned v' ∧ Own w' 5 v' (L.flatten.map bv) ∧ Fresh w.heap.size v' ∧ Ext w w' := by
  obtain ⟨A, c, vs, rfl, h1, h2, h3, h4, h5, h6⟩ := hy.open_
  go_enter Try.func74, Try.ntmps74
  go_wp2_with fail
  go_loop [3, 11] (fun n i => ∃ k : Nat, k ≤ L.length ∧ i = .int .i64 k ∧ n = .int .i64 (flen L k : Nat)) (fun _ i => L.length - (intOf i).toNat)
  case atStart => exact ⟨0, Nat.zero_le _, rfl, by simp [flen]⟩
  case round =>
    obtain ⟨k, hk, rfl, rfl⟩ := hrel
    by_cases hlt : k < L.length
    · obtain ⟨ad, x, rfl, hs, hc, hbs⟩ := row_at h4 h5 h6 hlt
      obtain ⟨A2, c2, rfl, k1, k2, k3, k4⟩ := hbs.open_
      have hsn := flen_snoc L k hlt
      have hle := flen_le L k
      have hle1 := flen_le L (k + 1)
      rw [hsn] at hle1
      replace hsn := Lib.hid hsn
      obtain ⟨tot, htot⟩ : ∃ t, t = L.flatten.length := ⟨_, rfl⟩
      rw [← htot] at hl hle hle1 hp
      replace htot := Lib.hid htot
      go_wp2
      exact ⟨⟨k + 1, by omega, by go_num, by rw [hsn.out]; go_num⟩, by simp [intOf] <;> omega⟩
    · have hfl : flen L k = L.flatten.length := flen_all L k (by omega)
      rw [hfl]
      clear hfl
      obtain ⟨n, hn⟩ : ∃ n, n = L.flatten.length := ⟨_, rfl⟩
      rw [← hn]
      rw [← hn] at hl hp
      replace hn := Lib.hid hn
      go_wp2_with fail
      refine (grow_any hp (by omega)).mono ?_
      rintro e w2 ⟨v2, rfl, k1, k2, k3⟩
      obtain ⟨A2, c2, rfl⟩ := k1.shape
      go_wp2_with fail
      go_loopw [6, 27] (fun v i wr => ∃ k : Nat, k ≤ L.length ∧ i = .int .i64 k ∧ Own wr 5 v (((L.take k).flatten).map bv) ∧ Fresh w.heap.size v ∧ Ext w wr) (fun _ i _ => L.length - (intOf i).toNat)
      case atStart => exact ⟨0, Nat.zero_le _, rfl, by simpa using k1, by simpa using k2, k3⟩
      case round =>
        clear hlt k1 k2 k3
        obtain ⟨k, hk, rfl, hown, hf, hm⟩ := hrel
        by_cases hlt : k < L.length
        · obtain ⟨ad, x, rfl, hs, hc, hbs⟩ := row_at h4 (h5.mod hm (fun _ _ _ h => h)) (fun k x l hx hl => (h6 k x l hx hl).ext hm) hlt
          have hsn := Lib.hid (flat_snoc L k hlt)
          have hle1 := flatR_take L (k + 1)
          rw [hsn.out, List.length_append, ← hn.out] at hle1
          have hln : (((L.take k).flatten.map bv).length + (L[k].map bv).length) * 1 ≤ 140737488355328 := by
            rw [List.length_map, List.length_map]; omega
          replace hle1 := Lib.hid hle1
          replace hln := Lib.hid hln
          go_wp2_with ((with_reducible show wpList _ _ _ (⟨some 33, _, _, _, _, _⟩ :: _) _ _); refine wp_app tyB hown hbs (bv_one _) rfl (.tmp 31) (.tmp 32) rfl rfl rfl hln.out ?_; intro v2 w2 hown2 hmod2 hnx2)
          exact ⟨⟨k + 1, by omega, by go_num, by rw [hsn.out, List.map_append]; exact hown2, hnx2.fresh hf hm.size, ext_app0 hm hf hmod2⟩, by simp [intOf] <;> omega⟩
        · rw [List.take_of_length_le (by omega)] at hown
          go_wp2_with fail
          go_ret
          exact ⟨_, rfl, hown, hf, hm⟩

set_option maxHeartbeats 4000000 in
theorem join_any {w : World} {S : Nat → Prop} {y : Value} {L : List (List UInt8)} (hy : Rw w S y L) (hp : 0 < L.flatten.length) (hl : L.flatten.length ≤ 65536) :
    Calls Try.prog 52 #[y] w fun e w' => ∃ v', e = .returned v' ∧ Own w' 5 v' (L.flatten.map bv) ∧ Fresh w.heap.size v' ∧ Ext w w' := by
  obtain ⟨A, c, vs, hv, -, -, -, -, -, -⟩ := hy.open_
  subst hv
  go_enter Try.func52, Try.ntmps52
  go_wp2_with fail
  refine (concat_any hy hp hl).mono ?_
  rintro e w2 ⟨v2, rfl, k1, k2, k3⟩
  go_wp2_with fail
  go_ret
  exact ⟨_, rfl, k1, k2, k3⟩
end Go.Proofs.Ytoockogceobfgaa
namespace Go.Proofs.Ytoockogceobfgaa
open Go.RowKit
set_option maxRecDepth 100000

theorem pie_next (L : List (List UInt8)) (k : Nat) : (List.range (k + 1)).flatMap (pie1 L) = (List.range k).flatMap (pie1 L) ++ pie1 L k := by
  rw [List.range_succ, List.flatMap_append]
  simp
theorem fl2_mem {M : List (List UInt8)} {x : List UInt8} (h : x ∈ M) (hs : M.flatten.length ≤ 65536) : x.length ≤ 65536 := by
  obtain ⟨p, q, rfl⟩ := List.append_of_mem h
  simp only [List.flatten_append, List.flatten_cons, List.length_append] at hs
  omega
theorem pie_one (L : List (List UInt8)) (k : Nat) : (pie1 L k).length ≤ 1 := by
  unfold pie1
  repeat' split
  all_goals simp
theorem pie_len (L : List (List UInt8)) : ∀ k, ((List.range k).flatMap (pie1 L)).length ≤ k
  | 0 => by simp
  | k + 1 => by
    have := pie_len L k
    have := pie_one L k
    rw [pie_next, List.length_append]
    omega

set_option maxHeartbeats 16000000 in
theorem pieces_any {w : World} {S : Nat → Prop} {v : Value} {L : List (List UInt8)} (h : Ss w S v L) (hL : L.length ≤ 100000) (hl : (pieB L).flatten.length ≤ 65536) :
    Calls Try.prog 110 #[v] w fun e w' => ∃ v' vs, e = .returned v' ∧ Orw w' w.heap.size v' vs (pieB L) ∧ Ext w w' := by
  obtain ⟨A, c, rfl, -, -, -, h4⟩ := h.open_
  obtain ⟨n, hn⟩ : ∃ n, n = L.length := ⟨_, rfl⟩
  have hpm : ∀ k, k < n → ∀ x ∈ pie1 L k, x.length ≤ 65536 := fun k hk x hx =>
    fl2_mem (M := pieB L) (List.mem_flatMap.2 ⟨k, List.mem_range.2 (by omega), hx⟩) hl
  have hpl := pie_len L
  have hp1 : ∀ (k : Nat), pie1 L k = if 0 < k ∧ k + 1 < n then [tlv 129 (L.getD k [])] else if L.getD k [] = [] then [] else if k = 0 then [tlv 128 (L.getD k [])] else [tlv 130 (L.getD k [])] := fun k => by rw [hn]; rfl
  have hpB : pieB L = (List.range n).flatMap (pie1 L) := by rw [hn]; rfl
  rw [hpB]
  rw [← hn] at hL ⊢
  replace hn := Lib.hid hn
  have hcv : ∀ {wx : World} (j : Nat) (hj : j < L.length), Ext w wx → ∃ ad, A = some ad ∧ wx.cell? (ad.add j) = some (sv L[j]) := fun j hj x => by
    obtain ⟨ad, h1, h2, h3⟩ := h4.at_ hj
    exact ⟨ad, h1, ext_cell x h3⟩
  clear h hl hpB
  go_enter Try.func110, Try.ntmps110
  go_wp2_with fail
  go_loopw [3, 12] (fun v i wr => ∃ (vs : List Value) (k : Nat), i = .int .i64 k ∧ k ≤ n ∧ Orw wr w.heap.size v vs ((List.range k).flatMap (pie1 L)) ∧ Ext w wr) (fun _ i _ => n - (intOf i).toNat)
  case atStart => exact ⟨[], 0, rfl, Nat.zero_le _, Orw.nil _ _, Mod.refl _ _⟩
  case round =>
    obtain ⟨vs, k, rfl, hk, ho, hx⟩ := hrel
    have hnn := hn.out
    by_cases hlt : k < n
    · have hb : decide ((k : Int) < (n : Int)) = true := dtrue (by omega)
      obtain ⟨ad, hA, cv⟩ := hcv k (by omega) hx
      subst hA
      have hnx := pie_next L k
      have hgd : L.getD k [] = L[k]'(by omega) := by rw [List.getD_eq_getElem?_getD, List.getElem?_eq_getElem (by omega)]; rfl
      have hpk := hp1 k
      have hpx := hpm k hlt
      rw [hgd] at hpk
      rw [hpk] at hnx hpx
      generalize L[k]'(by omega) = x at *
      have hvl2 := Lib.hid (show vs.length ≤ k by rw [ho.len]; exact hpl k)
      have hk0 : (0 : Int) ≤ (k : Int) := by omega
      have hk1 : (k : Int) < (n : Int) := by omega
      have hn63 : (n : Int) ≤ 100000 := by omega
      clear hpk hgd hnn hpm hp1 hcv hpl
      obtain ⟨M, hM⟩ : ∃ M, M = (List.range k).flatMap (pie1 L) := ⟨_, rfl⟩
      rw [← hM] at ho hnx
      clear hM
      by_cases c1 : 0 < k ∧ k + 1 < n
      · rw [if_pos c1] at hnx hpx
        have hxl : x.length ≤ 65536 := by
          have := hpx _ List.mem_cons_self
          simp only [tlv, List.length_append, List.length_cons] at this
          omega
        have hst := Lib.hid hnx
        have b1 : decide (0 < k) = true := dtrue (by omega)
        have b2 : decide ((k : Int) < (n : Int) - 1) = true := dtrue (by omega)
        clear hnx hpx
        go_wp2_with fail
        refine (mtext_any 129 x hxl).mono ?_
        rintro e w1 ⟨v1, rfl, m1, m2, m3⟩
        generalize tlv 129 x = X at *
        obtain ⟨A1, c1, e1⟩ := m1.shape
        rw [List.length_map] at e1
        subst e1
        have ho1 := ho.ext m3
        have hx1 := ext_trans hx m3
        have ho2 := ho1.ext ((Mod.refl (fun _ => False) w1).alloc (.cells #[.slice A1 X.length c1] 26))
        have hx2 := ext_trans hx1 ((Mod.refl (fun _ => False) w1).alloc (.cells #[.slice A1 X.length c1] 26))
        have m4 := m1.alloc (.cells #[.slice A1 X.length c1] 26)
        have hsl := Sl.one w1 26 (.slice A1 X.length c1)
        have m5 := fresh_le m2 hx.size
        go_wp2_with ((with_reducible show wpList _ _ _ (⟨some 34, _, _, _, _, _⟩ :: _) _ _); refine wp_app tyR ho2.own hsl (one_ok _ rfl) rfl (.tmp 30) (.tmp 33) rfl rfl rfl (by have := hvl2.out; simp only [List.length_singleton]; omega) ?_; intro v4 w4 q1 q2 q3)
        have ho3 := ho2.snoc q1 q2 q3 m4 m5 hx2.size
        have hx4 : Ext w w4 := hx2.trans q2 (fun _ _ h => h) (fun b hb h => by have := ho2.fresh b h; omega)
        exact ⟨⟨_, k + 1, by go_num, by omega, by rw [hst.out]; exact ho3, hx4⟩, by simp [intOf] <;> omega⟩
      rw [if_neg c1] at hnx hpx
      have hz1 : (0 < k ∧ ¬ (k + 1 < n)) ∨ k = 0 := by omega
      by_cases hx0 : x = []
      · rw [if_pos hx0, List.append_nil] at hnx
        subst hx0
        have hst := Lib.hid hnx
        clear hnx hpx
        rcases hz1 with ⟨z1, z2⟩ | z1
        · have b1 : decide (0 < k) = true := dtrue (by omega)
          have b2 : decide ((k : Int) < (n : Int) - 1) = false := dfalse (by omega)
          go_wp2_with fail
          exact ⟨⟨_, k + 1, by go_num, by omega, by rw [hst.out]; exact ho, hx⟩, by simp [intOf] <;> omega⟩
        · have b1 : decide (0 < k) = false := dfalse (by omega)
          clear z1
          go_wp2_with fail
          exact ⟨⟨_, k + 1, by go_num, by omega, by rw [hst.out]; exact ho, hx⟩, by simp [intOf] <;> omega⟩
      rw [if_neg hx0] at hnx hpx
      have b3 : x.isEmpty = false := by simpa using hx0
      rcases hz1 with ⟨z1, z2⟩ | z1
      · have z3 : ¬ k = 0 := by omega
        rw [if_neg z3] at hnx hpx
        have b1 : decide (0 < k) = true := dtrue (by omega)
        have b2 : decide ((k : Int) < (n : Int) - 1) = false := dfalse (by omega)
        have b4 : ((k : Int) == 0) = false := by rw [beq_eq_false_iff_ne]; omega
        have hxl : x.length ≤ 65536 := by
          have := hpx _ List.mem_cons_self
          simp only [tlv, List.length_append, List.length_cons] at this
          omega
        have hst := Lib.hid hnx
        clear hnx hpx
        go_wp2_with fail
        refine (mtext_any 130 x hxl).mono ?_
        rintro e w1 ⟨v1, rfl, m1, m2, m3⟩
        generalize tlv 130 x = X at *
        obtain ⟨A1, c1, e1⟩ := m1.shape
        rw [List.length_map] at e1
        subst e1
        have ho1 := ho.ext m3
        have hx1 := ext_trans hx m3
        have ho2 := ho1.ext ((Mod.refl (fun _ => False) w1).alloc (.cells #[.slice A1 X.length c1] 26))
        have hx2 := ext_trans hx1 ((Mod.refl (fun _ => False) w1).alloc (.cells #[.slice A1 X.length c1] 26))
        have m4 := m1.alloc (.cells #[.slice A1 X.length c1] 26)
        have hsl := Sl.one w1 26 (.slice A1 X.length c1)
        have m5 := fresh_le m2 hx.size
        go_wp2_with ((with_reducible show wpList _ _ _ (⟨some 21, _, _, _, _, _⟩ :: _) _ _); refine wp_app tyR ho2.own hsl (one_ok _ rfl) rfl (.tmp 17) (.tmp 20) rfl rfl rfl (by have := hvl2.out; simp only [List.length_singleton]; omega) ?_; intro v4 w4 q1 q2 q3)
        have ho3 := ho2.snoc q1 q2 q3 m4 m5 hx2.size
        have hx4 : Ext w w4 := hx2.trans q2 (fun _ _ h => h) (fun b hb h => by have := ho2.fresh b h; omega)
        exact ⟨⟨_, k + 1, by go_num, by omega, by rw [hst.out]; exact ho3, hx4⟩, by simp [intOf] <;> omega⟩
      · rw [if_pos z1] at hnx hpx
        have b1 : decide (0 < k) = false := dfalse (by omega)
        have b4 : ((k : Int) == 0) = true := by rw [beq_iff_eq]; omega
        have hxl : x.length ≤ 65536 := by
          have := hpx _ List.mem_cons_self
          simp only [tlv, List.length_append, List.length_cons] at this
          omega
        have hst := Lib.hid hnx
        clear hnx hpx z1 c1
        go_wp2_with fail
        refine (mtext_any 128 x hxl).mono ?_
        rintro e w1 ⟨v1, rfl, m1, m2, m3⟩
        generalize tlv 128 x = X at *
        obtain ⟨A1, c1, e1⟩ := m1.shape
        rw [List.length_map] at e1
        subst e1
        have ho1 := ho.ext m3
        have hx1 := ext_trans hx m3
        have ho2 := ho1.ext ((Mod.refl (fun _ => False) w1).alloc (.cells #[.slice A1 X.length c1] 26))
        have hx2 := ext_trans hx1 ((Mod.refl (fun _ => False) w1).alloc (.cells #[.slice A1 X.length c1] 26))
        have m4 := m1.alloc (.cells #[.slice A1 X.length c1] 26)
        have hsl := Sl.one w1 26 (.slice A1 X.length c1)
        have m5 := fresh_le m2 hx.size
        go_wp2_with ((with_reducible show wpList _ _ _ (⟨some 45, _, _, _, _, _⟩ :: _) _ _); refine wp_app tyR ho2.own hsl (one_ok _ rfl) rfl (.tmp 41) (.tmp 44) rfl rfl rfl (by have := hvl2.out; simp only [List.length_singleton]; omega) ?_; intro v4 w4 q1 q2 q3)
        have ho3 := ho2.snoc q1 q2 q3 m4 m5 hx2.size
        have hx4 : Ext w w4 := hx2.trans q2 (fun _ _ h => h) (fun b hb h => by have := ho2.fresh b h; omega)
        exact ⟨⟨_, k + 1, by go_num, by omega, by rw [hst.out]; exact ho3, hx4⟩, by simp [intOf] <;> omega⟩
    · have hb : decide ((k : Int) < (n : Int)) = false := dfalse (by omega)
      have hkn : k = n := by omega
      subst hkn
      clear hpm hp1 hcv hpl hnn
      go_wp2_with fail
      go_ret
      exact ⟨_, _, rfl, ho, hx⟩
end Go.Proofs.Ytoockogceobfgaa
