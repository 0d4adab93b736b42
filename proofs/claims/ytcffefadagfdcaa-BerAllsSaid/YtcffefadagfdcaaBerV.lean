/- ber: all of them, one behind the other. -/
import Derived.Test.YtcffefadagfdcaaBerT
import Derived.Test.YtcffefadagfdcaaOwnK
namespace Go.Proofs.Ytcffefadagfdcaa
open Go.RowKit
set_option maxRecDepth 100000

theorem tyItem : SliceTyK Try.prog 51 58 (.agg #[.int .u8 0, .slice none 0 0]) 2 32 := ⟨Try.underlying51, by kernel_rfl, rfl, by decide, by decide⟩
theorem tyRItem : SliceTyK Try.prog 54 59 (.agg #[.int .u8 0, .slice none 0 0]) 2 32 := ⟨Try.underlying54, by kernel_rfl, rfl, by decide, by decide⟩

/-- append, of an operation alone, elements of k cells. -/
theorem op_appk {P : Program} {w : World} {t e : TypeId} {z : Value} {k n m bytes : Nat} {S : Nat → Prop} {o : Oper} {a : Act} {K : Act → World → Prop} {Q : Exit → Act → World → Prop} (hT : SliceTyK P t e z k bytes) {v y : Value} {xs news : List Value} (hown : OwnK w e k v n xs) (hr : SlK w S k y m news) (h1 : ∀ u ∈ news, u.oneCell' = true)
    (s x : Operand) (d : Tmp) (hd : o.dst = some d) (ho : o.op = .call { callee := .builtin .append, args := #[s, x], argTypes := #[t, t] }) (hs : a.eval s = v) (hx : a.eval x = y)
    (hn : (n + m) * bytes ≤ 140737488355328)
    (h : ∀ v' w', OwnK w' e k v' (n + m) (xs ++ news) → Mod (own v) w w' → Next w.heap.size v v' → K (a.put (some d) v') w') : Oper.wp P o a w K Q := by
  obtain ⟨v', w', hrun, h2, h3, h4⟩ := run_appk (P := P) hT o.type hown hr h1 hn
  unfold Oper.wp execOp
  simp only [ho, resolve, invoke, builtin, Sem.run_bind, Sem.run_pure, Result.andThen_ok, List.map_toArray, List.map_cons, List.map_nil, hs, hx, hrun]
  simp only [Oper.upon, hd]
  exact h v' w' h2 h3 h4

/-- v's elements are tags and bodies; no body lies in v's own block. -/
def ItsAt (w : World) (v : Value) (xs : List Value) (L : List (UInt8 × List UInt8)) : Prop :=
  ∀ i t b, L[i]? = some (t, b) → ∃ x, xs[i * 2]? = some (.int .u8 t.toNat) ∧ xs[i * 2 + 1]? = some x ∧ Bs w (fun k => ¬ own v k) x b
def Its (w : World) (e : TypeId) (v : Value) (L : List (UInt8 × List UInt8)) : Prop :=
  ∃ xs, OwnK w e 2 v L.length xs ∧ ItsAt w v xs L
section
variable {w wa w' : World} {e : TypeId} {v v' x : Value} {xs : List Value} {L : List (UInt8 × List UInt8)} {t : UInt8} {b : List UInt8}
theorem Its.nil (w : World) (e : TypeId) : Its w e (.slice none 0 0) [] := ⟨[], OwnK.nil _ _ _, fun i t b h => by simp at h⟩
theorem ItsAt.ext (h : ItsAt w v xs L) (hm : Ext w w') : ItsAt w' v xs L := fun i t b hi => by
  obtain ⟨x, h1, h2, h3⟩ := h i t b hi
  exact ⟨x, h1, h2, h3.ext hm⟩
theorem Its.ext (h : Its w e v L) (hm : Ext w w') : Its w' e v L := by
  obtain ⟨xs, h1, h2⟩ := h
  exact ⟨xs, h1.mod hm (fun _ _ h => h), h2.ext hm⟩
theorem Its.shape (h : Its w e v L) : ∃ A c, v = .slice A L.length c := by
  obtain ⟨xs, h1, h2⟩ := h
  exact h1.shape
theorem bs_moves {l : List UInt8} (hx : Bs wa (fun k => ¬ own v k) x l) (hm : Mod (own v) wa w') (hnx : Next wa.heap.size v v') : Bs w' (fun k => ¬ own v' k) x l :=
  ((hx.mono (T := fun k => ¬ own v k ∧ ¬ own v' k) (fun k hk hS => ⟨hS, fun hF => hS (hnx.sub hk hF)⟩)).mod hm (fun k _ hS hF => hS.1 hF)).mono (fun k _ hS => hS.2)
theorem Its.snoc (hit : ItsAt wa v xs L) (hxs : xs.length = L.length * 2) (hx : Bs wa (fun k => ¬ own v k) x b) (hown : OwnK w' e 2 v' (L.length + 1) (xs ++ [.int .u8 t.toNat, x])) (hm : Mod (own v) wa w') (hnx : Next wa.heap.size v v') : Its w' e v' (L ++ [(t, b)]) := by
  refine ⟨_, by rw [List.length_append]; exact hown, fun i t' b' hi => ?_⟩
  by_cases hlt : i < L.length
  · rw [List.getElem?_append_left hlt] at hi
    obtain ⟨y, h1, h2, h3⟩ := hit i t' b' hi
    refine ⟨y, ?_, ?_, bs_moves h3 hm hnx⟩
    · rw [List.getElem?_append_left (by omega)]; exact h1
    · rw [List.getElem?_append_left (by omega)]; exact h2
  · have hi0 : i = L.length := by
      have := (List.getElem?_eq_some_iff.1 hi).1
      rw [List.length_append] at this
      simp at this; omega
    subst hi0
    rw [List.getElem?_append_right (Nat.le_refl _), Nat.sub_self] at hi
    simp at hi
    obtain ⟨rfl, rfl⟩ := hi
    refine ⟨x, ?_, ?_, bs_moves hx hm hnx⟩
    · rw [List.getElem?_append_right (by omega), hxs, Nat.sub_self]; rfl
    · rw [List.getElem?_append_right (by omega), hxs, show L.length * 2 + 1 - L.length * 2 = 1 by omega]; rfl
end

/-- All of them, in n steps at most. -/
def balls : Nat → List UInt8 → List (UInt8 × List UInt8) → List (UInt8 × List UInt8) × Nat
  | 0, _, acc => (acc, 0)
  | n + 1, l, acc => if l.length = 0 then (acc, 0) else if (bnext l).2.2.2 = 0 then balls n (bnext l).2.2.1 (acc ++ [((bnext l).1, (bnext l).2.1)]) else ([], (bnext l).2.2.2)
theorem balls_nil (n : Nat) {l : List UInt8} (acc : List (UInt8 × List UInt8)) (h : l.length = 0) : balls n l acc = (acc, 0) := by
  cases n with
  | zero => rfl
  | succ n => rw [balls, if_pos h]
theorem balls_err {n : Nat} {l : List UInt8} (acc : List (UInt8 × List UInt8)) (h : ¬ l.length = 0) (he : (bnext l).2.2.2 ≠ 0) : balls (n + 1) l acc = ([], (bnext l).2.2.2) := by
  rw [balls, if_neg h, if_neg he]
theorem balls_ok {n : Nat} {l : List UInt8} (acc : List (UInt8 × List UInt8)) (h : ¬ l.length = 0) (he : (bnext l).2.2.2 = 0) : balls (n + 1) l acc = balls n (bnext l).2.2.1 (acc ++ [((bnext l).1, (bnext l).2.1)]) := by
  rw [balls, if_neg h, if_pos he]
theorem bnext_short {l : List UInt8} (he : (bnext l).2.2.2 = 0) : (bnext l).2.2.1.length + 2 ≤ l.length := by
  have hok := @blook_ok l
  unfold bnext at he ⊢
  by_cases h : (blook l).2.2 = 0
  · rw [if_pos h]
    have := hok h
    simp only [List.length_drop]; omega
  · rw [if_neg h] at he
    exact absurd he h

set_option maxHeartbeats 4000000 in
theorem ralls_any {w : World} {S : Nat → Prop} {v : Value} {l : List UInt8} (h : Bs w S v l) (hl : l.length ≤ 100000) :
    Calls Try.prog 35 #[v] w fun e w' => ∃ v', e = .returned (.tuple #[v', .int .i64 ((balls l.length l []).2 : Nat)]) ∧ Its w' 59 v' (balls l.length l []).1 ∧ Ext w w' := by
  obtain ⟨r, hr⟩ : ∃ r, r = balls l.length l [] := ⟨_, rfl⟩
  rw [← hr]
  replace hr := Lib.hid hr
  go_enter Try.func35, Try.ntmps35
  go_wp2_with fail
  go_loopw [0, 4] (fun vb vo wr => ∃ (n : Nat) (l' : List UInt8) (acc : List (UInt8 × List UInt8)), Bs wr (fun k => ¬ own vo k) vb l' ∧ Its wr 59 vo acc ∧ Fresh w.heap.size vo ∧ Ext w wr ∧ Hid (balls n l' acc = r) ∧ l'.length ≤ n ∧ acc.length + l'.length ≤ 100000) (fun vb _ _ => slen vb)
  case atStart => exact ⟨l.length, l, [], h.mono (fun _ _ _ hF => by cases hF), Its.nil _ _, fresh_nil _ _ _, Mod.refl _ _, Lib.hid hr.out.symm, Nat.le_refl _, by simpa using hl⟩
  case round =>
    obtain ⟨n, l', acc, p0, p1, p2, p3, p4, p5, p6⟩ := hrel
    have p00 := p0
    obtain ⟨A, c, rfl, h1, h2, h3, h4⟩ := p0.open_
    clear h3 h4 p0
    by_cases e0 : l'.length = 0
    · have hb : decide ((0 : Int) < (l'.length : Int)) = false := by rw [decide_eq_false_iff_not]; omega
      have hrr := p4.out
      rw [balls_nil n acc e0] at hrr
      replace hrr := Lib.hid hrr
      clear p4
      go_wp2_with fail
      go_ret2
      rw [← hrr.out]
      exact ⟨_, rfl, p1, p3⟩
    have hb : decide ((0 : Int) < (l'.length : Int)) = true := by rw [decide_eq_true_eq]; omega
    obtain ⟨m, rfl⟩ : ∃ m, n = m + 1 := ⟨n - 1, by omega⟩
    go_wp2_with fail
    refine (rnext_any p00 (by omega)).mono ?_
    rintro e w1 ⟨v1, v2, rfl, g1, g2, g3, g4, g5⟩
    replace p3 := ext_trans p3 g5
    by_cases he : (bnext l').2.2.2 = 0
    · have hrr := p4.out
      rw [balls_ok acc e0 he] at hrr
      have hsh := bnext_short he
      rw [he]
      generalize bnext l' = o at *
      obtain ⟨ot, ob, os, oe⟩ := o
      simp only at g1 g2 hrr hsh ⊢
      clear he p4
      obtain ⟨xs, u1, u2⟩ := p1.ext g5
      have ul := u1.len
      have hlt4 : ∀ k, own u4 k → k < wr.heap.size := fun k hk => by
        obtain ⟨xs0, a0, _⟩ := p1
        exact a0.lt hk
      have g1s := g1.sl
      have g2s := g2.sl
      have hx1 : Bs w1 (fun k => ¬ own u4 k) v1 ob := g1s.mono (fun k hk hS hF => by have := g3 k hS; have := hlt4 k hF; omega)
      have hx2 : Bs w1 (fun k => ¬ own u4 k) v2 os := g2s.mono (fun k hk hS hF => by have := g4 k hS; have := hlt4 k hF; omega)
      clear hlt4 g1s g2s g3 g4
      obtain ⟨A1, c1, hv1⟩ := g1.shape
      obtain ⟨A3, c3, hv3⟩ := g2.shape
      clear g1 g2
      rw [List.length_map] at hv1 hv3
      subst hv1 hv3
      have hn1 := Lib.hid (show (acc.length + 1) * 32 ≤ 140737488355328 by omega)
      have hone : ∀ u ∈ ([.int .u8 (ot.toNat : Int), .slice A1 ob.length c1] : List Value), u.oneCell' = true := by
        intro u hu; simp only [List.mem_cons, List.not_mem_nil, or_false] at hu; rcases hu with rfl | rfl <;> rfl
      replace hone := Lib.hid hone
      have hsl := SlK.one w1 59 [.int .u8 (ot.toNat : Int), .slice A1 ob.length c1] 2 rfl
      have u1a := u1.alloc (.cells #[.int .u8 (ot.toNat : Int), .slice A1 ob.length c1] 59)
      replace ul := Lib.hid ul
      replace hrr := Lib.hid hrr
      go_wp2_with ((with_reducible show wpList _ _ _ (⟨some 27, _, _, _, _, _⟩ :: _) _ _); refine wp_appk tyRItem u1a hsl hone.out rfl (.tmp 22) (.tmp 26) rfl rfl rfl hn1.out ?_; intro v3 w3 q1 q2 q3)
      have xa : Ext w1 (w1.alloc (.cells #[.int .u8 (ot.toNat : Int), .slice A1 ob.length c1] 59)) := (Mod.refl _ w1).alloc _
      refine ⟨⟨m, os, acc ++ [(ot, ob)], bs_moves (hx2.ext xa) q2 q3, Its.snoc (u2.ext xa) ul.out (hx1.ext xa) q1 q2 q3, (q3.fresh p2 (ext_trans p3 xa).size), ext_app0 (ext_trans p3 xa) p2 q2, hrr, by omega, by simp; omega⟩, ?_⟩
      simp [slen]; omega
    · have hrr := p4.out
      rw [balls_err acc e0 he] at hrr
      generalize (bnext l').2.2.2 = oe at *
      have hne : ((oe : Int) != 0) = true := by rw [bne_iff_ne]; omega
      replace hrr := Lib.hid hrr
      clear p4 g1 g2 g3 g4 he
      go_wp2_with fail
      go_ret2
      rw [← hrr.out]
      exact ⟨_, rfl, Its.nil _ _, p3⟩
end Go.Proofs.Ytcffefadagfdcaa
