/- the Writer that a call has made; bytes of one's own that grow; what is left of bytes. -/
import Derived.Test.YtmjkgibeljbloaaOctU
import Derived.Test.YtmjkgibeljbloaaStrB
import Derived.Test.YtmjkgibeljbloaaToB
import Derived.Test.YtmjkgibeljbloaaLvA
namespace Go.Proofs.Ytmjkgibeljbloaa
open Go.RowKit
set_option maxRecDepth 100000

theorem takeB_none : takeB none = ([], none) := by decide
theorem takeN_lt {l t : List UInt8} {n : Nat} (h : takeN (some l) = (n, some t)) : t.length < l.length := by
  unfold takeN takeNum at h
  dsimp only at h
  cases hx : numF 9 0 0 l with
  | none => rw [hx] at h; cases h
  | some p =>
    obtain ⟨m, t'⟩ := p
    rw [hx] at h
    cases h
    exact (numF_lt 9 0 0 l t n hx).1

theorem encr_one_ (p : List UInt8) : encr [p] = enc7 p.length ++ p := by simp [encr]
theorem enc7_ten {n : Nat} (h : n ≤ 4611686018427387904) : (enc7 n).length ≤ 10 := enc7_length 9 n (by omega)

abbrev szO (st : Option (List UInt8)) : Nat := (st.getD []).length
theorem takeB_sum (st : Option (List UInt8)) : (takeB st).1.length + szO (takeB st).2 ≤ szO st := by
  have h := takeN_len st
  unfold takeB
  generalize (takeN st).1 = n at *
  generalize (takeN st).2 = t at *
  cases t with
  | none => exact Nat.zero_le _
  | some l =>
    unfold takeRaw
    have e0 : ((some l).getD []).length = l.length := rfl
    by_cases hn : (n : Int) < 0 ∨ (l.length : Int) < (n : Int)
    · simp only [if_pos hn]
      exact Nat.zero_le _
    · simp only [if_neg hn]
      show (l.take _).length + (l.drop _).length ≤ szO st
      rw [List.length_take, List.length_drop]
      unfold szO
      omega
section
variable {w wx w' : World} {g : Nat} {v v' : Value} {l l' : List UInt8}
/-- A Writer at block g, made behind world w. -/
structure Wo (w : World) (g : Nat) (wx : World) (v : Value) (l : List UInt8) : Prop where
  it : Wr wx g v l
  fr : Fresh g v
  ex : Ext w wx
  lo : w.heap.size ≤ g
/-- What a call on it leaves: only the Writer has turned. -/
structure Wk (g : Nat) (wx : World) (v : Value) (w' : World) (v' : Value) : Prop where
  md : Mod (wrF g v) wx w'
  nx : ∀ k, k < wx.heap.size → ¬ wrF g v k → ¬ wrF g v' k
theorem Wo.lt (h : Wo w g wx v l) : g < wx.heap.size := h.it.blk.lt
theorem Wo.off (h : Wo w g wx v l) {k : Nat} (hk : wx.heap.size ≤ k) : ¬ wrF g v k := by
  rintro (e | e)
  · have := h.lt; omega
  · have := h.it.row.lt e; omega
theorem Wo.low (h : Wo w g wx v l) {k : Nat} (hk : k < g) : ¬ wrF g v k := by
  rintro (e | e)
  · omega
  · have := h.fr k e; omega
theorem Wo.ext (h : Wo w g wx v l) (hx : Ext wx w') : Wo w g w' v l := ⟨h.it.mod hx (fun h => h) (fun _ _ h => h), h.fr, ext_trans h.ex hx, h.lo⟩
theorem Wo.call {wk : World} (h : Wo w g wx v l) (hx : Ext wx wk) (r : Wr w' g v' l') (m : Mod (wrF g v) wk w') (n : Next wk.heap.size v v') : Wo w g w' v' l' :=
  ⟨r, n.fresh h.fr (by have := h.lt; have := hx.size; omega), (ext_trans h.ex hx).trans m (fun _ _ h => h) (fun k hk hF => by have := h.lo; exact h.low (show k < g by omega) hF), h.lo⟩
theorem Wk.of {wk : World} (hx : Ext wx wk) (m : Mod (wrF g v) wk w') (n : Next wk.heap.size v v') : Wk g wx v w' v' :=
  ⟨Mod.trans hx m (fun _ _ h => h.elim) (fun _ _ h => h), fun k hk hn => by
    have := hx.size
    rintro (e | e)
    · exact hn (.inl e)
    · exact hn (.inr (n.sub (by omega) e))⟩
theorem Wk.blk {b : Nat} {t : TypeId} {cs : Array Value} (h : Wk g wx v w' v') (hb : Blk wx b t cs) (hn : ¬ wrF g v b) : Blk w' b t cs ∧ ¬ wrF g v' b := ⟨hb.mod h.md hn, h.nx b hb.lt hn⟩
theorem Wk.own {e : TypeId} {y : Value} {xs : List Value} (h : Wk g wx v w' v') (hb : Own wx e y xs) (hn : ∀ k, own y k → ¬ wrF g v k) : Own w' e y xs ∧ ∀ k, own y k → ¬ wrF g v' k := ⟨hb.mod h.md hn, fun k hk => h.nx k (hb.lt hk) (hn k hk)⟩
theorem wo_begin (w : World) : Wo w w.heap.size (w.alloc (.cells #[.slice none 0 0] 54)) (.slice none 0 0) [] := ⟨⟨Blk.new w _ _, Own.nil _ _⟩, fresh_nil _ _ _, (Mod.refl _ w).alloc _, Nat.le_refl _⟩
theorem wo_num (h : Wo w g wx v l) (n : Int) (hl : l.length ≤ 100000000000) :
    Calls Try.prog 26 #[.pointer (some ⟨g, 0, none⟩), .slice (some ⟨wx.heap.size, 0, none⟩) 1 1] (wx.alloc (.cells #[.int .i64 n] 3)) fun e w' => e = .returned (.tuple #[]) ∧ ∃ v', Wo w g w' v' (l ++ enc7 (clamp n)) ∧ Wk g wx v w' v' := by
  have x1 : Ext wx (wx.alloc (.cells #[.int .i64 n] 3)) := (Mod.refl _ wx).alloc _
  have hy : Is (wx.alloc (.cells #[.int .i64 n] 3)) (fun k => k = wx.heap.size) (.slice (some ⟨wx.heap.size, 0, none⟩) 1 1) [n] := Sl.one wx 3 (.int .i64 n)
  refine (wnums_any (h.ext x1).it hy (fun k _ hk2 => by rw [hk2]; exact fun hh => h.off (Nat.le_refl _) hh) (by simp; omega)).mono ?_
  rintro e w2 ⟨rfl, v2, h2, m2, n2⟩
  have en : encs [n] = enc7 (clamp n) := by simp [encs]
  rw [en] at h2
  exact ⟨rfl, v2, h.call x1 h2 m2 n2, Wk.of x1 m2 n2⟩
theorem wo_row (h : Wo w g wx v l) {S : Nat → Prop} {y : Value} {p : List UInt8} (hy : Bs wx S y p) (hS : ∀ k, k < wx.heap.size → S k → ¬ wrF g v k) (hl : l.length + p.length ≤ 100000000000) :
    Calls Try.prog 27 #[.pointer (some ⟨g, 0, none⟩), .slice (some ⟨wx.heap.size, 0, none⟩) 1 1] (wx.alloc (.cells #[y] 26)) fun e w' => e = .returned (.tuple #[]) ∧ ∃ v', Wo w g w' v' (l ++ (enc7 p.length ++ p)) ∧ Wk g wx v w' v' := by
  have x1 : Ext wx (wx.alloc (.cells #[y] 26)) := (Mod.refl _ wx).alloc _
  have e7 := enc7_ten (n := p.length) (by omega)
  refine (wbytes_any (h.ext x1).it (Rw.one 26 hy) (fun k hk hk2 hF => ?_) (by simp [encr]; omega)).mono ?_
  · rcases hk2 with hk2 | hk2
    · by_cases hlt : k < wx.heap.size
      · exact hS k hlt hk2 hF
      · exact h.off (by omega) hF
    · exact h.off (by omega) hF
  rintro e w2 ⟨rfl, v2, h2, m2, n2⟩
  rw [encr_one_] at h2
  exact ⟨rfl, v2, h.call x1 h2 m2 n2, Wk.of x1 m2 n2⟩
end
theorem Own.at_ {w : World} {e : TypeId} {A : Option Addr} {n c : Nat} {xs : List Value} (h : Own w e (.slice A n c) xs) {k : Nat} (hk : k < xs.length) : ∃ ad, A = some ad ∧ w.cell? (ad.add k) = some xs[k] := by
  obtain ⟨A', c', hv, _, _, _, h5⟩ := h.sl
  injection hv with e1 e2 e3
  subst e1
  obtain ⟨ad, hA, _, hc⟩ := h5 k xs[k] (by simp [hk])
  exact ⟨ad, hA, hc⟩
theorem clamp_n (n : Nat) (h : n ≤ 4611686018427387904) : clamp ((n : Nat) : Int) = n := clamp_nat n h

/-- Bytes of one's own that grow behind a world. -/
structure Gw (w0 w : World) (v : Value) (l : List UInt8) : Prop where
  row : Own w 5 v (l.map bv)
  fr : Fresh w0.heap.size v
  ex : Ext w0 w
theorem Gw.ext {w0 w w' : World} {v : Value} {l : List UInt8} (h : Gw w0 w v l) (hx : Ext w w') : Gw w0 w' v l := ⟨h.row.mod hx (fun _ _ h => h), h.fr, ext_trans h.ex hx⟩
theorem wp_gw {P : Program} {ops : Array Oper} {rest : List Oper} {o : Oper} {a : Act} {Q : Exit → Act → World → Prop} {t : TypeId} {z : Value} {S : Nat → Prop} {w0 w : World} {v y : Value} {l l1 : List UInt8}
    (hT : SliceTy P t 5 z 1) (hg : Gw w0 w v l) (hr : Sl w S y (l1.map bv)) (hgd : o.guard = none) (s x : Operand) (ho : o.op = .call { callee := .builtin .append, args := #[s, x], argTypes := #[t, t] }) (hs : a.eval s = v) (hx : a.eval x = y)
    (hn : l.length + l1.length ≤ 1000000000000) (h : ∀ v' w', Gw w0 w' v' (l ++ l1) → wpList P ops Q rest (a.put o.dst v') w') : wpList P ops Q (o :: rest) a w := by
  refine wp_app hT hg.row hr (bv_one _) hgd s x ho hs hx (by simp only [List.length_map]; omega) fun v' w' k1 k2 k3 => ?_
  refine h v' w' ⟨by rw [List.map_append]; exact k1, k3.fresh hg.fr hg.ex.size, hg.ex.trans k2 (fun _ _ h => h) (fun i hi hF => by have := hg.fr i hF; omega)⟩

theorem gw_keep {w w' : World} {v v' y : Value} {e : TypeId} {xs : List Value} (h : Own w e y xs) (hn : ∀ k, own y k → ¬ own v k) (m : Mod (own v) w w') (n : Next w.heap.size v v') : Own w' e y xs ∧ ∀ k, own y k → ¬ own v' k :=
  ⟨h.mod m hn, fun k hk hh => hn k hk (n.sub (h.lt hk) hh)⟩
theorem wp_gwm {P : Program} {ops : Array Oper} {rest : List Oper} {o : Oper} {a : Act} {Q : Exit → Act → World → Prop} {t : TypeId} {z : Value} {S : Nat → Prop} {w0 w : World} {v y : Value} {l l1 : List UInt8}
    (hT : SliceTy P t 5 z 1) (hg : Gw w0 w v l) (hr : Sl w S y (l1.map bv)) (hgd : o.guard = none) (s x : Operand) (ho : o.op = .call { callee := .builtin .append, args := #[s, x], argTypes := #[t, t] }) (hs : a.eval s = v) (hx : a.eval x = y)
    (hn : l.length + l1.length ≤ 1000000000000) (h : ∀ v' w', Gw w0 w' v' (l ++ l1) → Mod (own v) w w' → Next w.heap.size v v' → wpList P ops Q rest (a.put o.dst v') w') : wpList P ops Q (o :: rest) a w := by
  refine wp_app hT hg.row hr (bv_one _) hgd s x ho hs hx (by simp only [List.length_map]; omega) fun v' w' k1 k2 k3 => ?_
  refine h v' w' ⟨by rw [List.map_append]; exact k1, k3.fresh hg.fr hg.ex.size, hg.ex.trans k2 (fun _ _ h => h) (fun i hi hF => by have := hg.fr i hF; omega)⟩ k2 k3
theorem takeB_lt2 {l l1 : List UInt8} (h : (takeB (some l)).2 = some l1) : (takeB (some l)).1.length + l1.length < l.length := by
  unfold takeB at h ⊢
  rcases hn : takeN (some l) with ⟨n, s⟩
  rw [hn] at h
  cases s with
  | none => cases h
  | some t =>
    have h1 := takeN_lt hn
    simp only [takeRaw] at h ⊢
    split at h
    · cases h
    · rename_i hc
      injection h with h
      rw [if_neg hc, ← h, List.length_drop, List.length_take]; omega
def mS : Option (List UInt8) → Nat
  | some l => l.length + 1
  | none => 0
abbrev lb (p : List UInt8) : List UInt8 := enc7 p.length ++ p
theorem fm_snoc {α β : Type} (f : α → List β) (L : List α) {k : Nat} (h : k < L.length) : (L.take (k + 1)).flatMap f = (L.take k).flatMap f ++ f L[k] := by
  rw [List.take_succ_eq_append_getElem h, List.flatMap_append]
  simp
theorem fm_take {α β : Type} (f : α → List β) (L : List α) (k : Nat) : ((L.take k).flatMap f).length ≤ (L.flatMap f).length := by
  have : L.flatMap f = (L.take k).flatMap f ++ (L.drop k).flatMap f := by rw [← List.flatMap_append, List.take_append_drop]
  rw [this, List.length_append]; omega
theorem wo_two {w wx w' : World} {g : Nat} {v : Value} {l : List UInt8} (h : Wo w g wx v l) (hx : Ext wx w') {S T : Nat → Prop} {y z : Value} {p q : List UInt8} (hy : Bs w' S y p) (hz : Bs w' T z q) (hS : ∀ k, S k → wx.heap.size ≤ k) (hT : ∀ k, T k → wx.heap.size ≤ k) (hl : l.length + p.length + q.length ≤ 100000000000) :
    Calls Try.prog 27 #[.pointer (some ⟨g, 0, none⟩), .slice (some ⟨w'.heap.size, 0, none⟩) 2 2] (w'.alloc (.cells #[y, z] 26)) fun e w'' => e = .returned (.tuple #[]) ∧ ∃ v', Wo w g w'' v' (l ++ (lb p ++ lb q)) := by
  have x1 : Ext wx (w'.alloc (.cells #[y, z] 26)) := hx.alloc _
  have e7 := enc7_ten (n := p.length) (by omega)
  have e8 := enc7_ten (n := q.length) (by omega)
  have hs := hx.size
  refine (wbytes_any (h.ext x1).it (Rw.two 26 hy hz) (fun k hk hk2 hF => ?_) (by simp [encr]; omega)).mono ?_
  · rcases hk2 with hk2 | hk2 | hk2
    · exact h.off (hS k hk2) hF
    · exact h.off (hT k hk2) hF
    · exact h.off (by omega) hF
  rintro e w2 ⟨rfl, v2, h2, m2, n2⟩
  have en : encr [p, q] = lb p ++ lb q := by simp [encr, lb]
  rw [en] at h2
  exact ⟨rfl, v2, h.call x1 h2 m2 n2⟩
theorem wo_num2 {w wx : World} {g : Nat} {v : Value} {l : List UInt8} (h : Wo w g wx v l) (a b : Int) (hl : l.length ≤ 100000000000) :
    Calls Try.prog 26 #[.pointer (some ⟨g, 0, none⟩), .slice (some ⟨wx.heap.size, 0, none⟩) 2 2] (wx.alloc (.cells #[.int .i64 a, .int .i64 b] 3)) fun e w' => e = .returned (.tuple #[]) ∧ ∃ v', Wo w g w' v' (l ++ (enc7 (clamp a) ++ enc7 (clamp b))) ∧ Wk g wx v w' v' := by
  have x1 : Ext wx (wx.alloc (.cells #[.int .i64 a, .int .i64 b] 3)) := (Mod.refl _ wx).alloc _
  have hy : Is (wx.alloc (.cells #[.int .i64 a, .int .i64 b] 3)) (fun k => k = wx.heap.size) (.slice (some ⟨wx.heap.size, 0, none⟩) 2 2) [a, b] := Sl.lit wx 3 [iv a, iv b] (by simp [maxLen])
  refine (wnums_any (h.ext x1).it hy (fun k _ hk2 => by rw [hk2]; exact fun hh => h.off (Nat.le_refl _) hh) (by simp; omega)).mono ?_
  rintro e w2 ⟨rfl, v2, h2, m2, n2⟩
  have en : encs [a, b] = enc7 (clamp a) ++ enc7 (clamp b) := by simp [encs]
  rw [en] at h2
  exact ⟨rfl, v2, h.call x1 h2 m2 n2, Wk.of x1 m2 n2⟩
theorem wo_num3 {w wx : World} {g : Nat} {v : Value} {l : List UInt8} (h : Wo w g wx v l) (a b c : Int) (hl : l.length ≤ 100000000000) :
    Calls Try.prog 26 #[.pointer (some ⟨g, 0, none⟩), .slice (some ⟨wx.heap.size, 0, none⟩) 3 3] (wx.alloc (.cells #[.int .i64 a, .int .i64 b, .int .i64 c] 3)) fun e w' => e = .returned (.tuple #[]) ∧ ∃ v', Wo w g w' v' (l ++ (enc7 (clamp a) ++ enc7 (clamp b) ++ enc7 (clamp c))) ∧ Wk g wx v w' v' := by
  have x1 : Ext wx (wx.alloc (.cells #[.int .i64 a, .int .i64 b, .int .i64 c] 3)) := (Mod.refl _ wx).alloc _
  have hy : Is (wx.alloc (.cells #[.int .i64 a, .int .i64 b, .int .i64 c] 3)) (fun k => k = wx.heap.size) (.slice (some ⟨wx.heap.size, 0, none⟩) 3 3) [a, b, c] := Sl.lit wx 3 [iv a, iv b, iv c] (by simp [maxLen])
  refine (wnums_any (h.ext x1).it hy (fun k _ hk2 => by rw [hk2]; exact fun hh => h.off (Nat.le_refl _) hh) (by simp; omega)).mono ?_
  rintro e w2 ⟨rfl, v2, h2, m2, n2⟩
  have en : encs [a, b, c] = enc7 (clamp a) ++ enc7 (clamp b) ++ enc7 (clamp c) := by simp [encs]
  rw [en] at h2
  exact ⟨rfl, v2, h.call x1 h2 m2 n2, Wk.of x1 m2 n2⟩
end Go.Proofs.Ytmjkgibeljbloaa
