/- schema: the table of classes, in memory. -/
import Derived.Test.YtdfjldlfimbimaaScA
namespace Go.Proofs.Ytdfjldlfimbimaa
open Go.RowKit
set_option maxRecDepth 100000

abbrev offB (b : Nat) : Nat → Prop := fun k => k ≠ b
/-- Block b holds these classes, each with its rows. -/
def ClsAt (w : World) (b : Nat) (C : List (List UInt8 × Tx × Tx)) : Prop :=
  ∃ D : List (ByteArray × Value), MpAt w b D ∧ D.length = C.length ∧ ∀ (i : Nat) (p : ByteArray × Value) (c : List UInt8 × Tx × Tx), D[i]? = some p → C[i]? = some c → p.1 = ⟨c.1.toArray⟩ ∧ ∃ x y, p.2 = .agg #[x, y] ∧ Ts w (offB b) x c.2.1 ∧ Ts w (offB b) y c.2.2
theorem ClsAt.ext {w w' : World} {b : Nat} {C : List (List UInt8 × Tx × Tx)} (h : ClsAt w b C) (hm : Ext w w') : ClsAt w' b C := by
  obtain ⟨D, h1, h2, h3⟩ := h
  exact ⟨D, h1.mod hm (fun h => h), h2, fun i p c hp hc => by obtain ⟨e, x, y, e2, t1, t2⟩ := h3 i p c hp hc; exact ⟨e, x, y, e2, t1.ext hm, t2.ext hm⟩⟩
theorem ba_beq (a b : ByteArray) : (a == b) = (a.data == b.data) := by
  show ByteArray.beq a b = _
  unfold ByteArray.beq
  rfl
theorem ba_inj {k l : List UInt8} : ((⟨k.toArray⟩ : ByteArray) == ⟨l.toArray⟩) = decide (k = l) := by
  rw [ba_beq]
  show (k.toArray == l.toArray) = _
  by_cases h : k = l
  · subst h; simp
  · rw [decide_eq_false h, beq_eq_false_iff_ne]
    intro e
    exact h (by simpa using congrArg Array.toList e)
theorem cls_lk {w : World} {S : Nat → Prop} (k : List UInt8) : ∀ (D : List (ByteArray × Value)) (C : List (List UInt8 × Tx × Tx)), D.length = C.length → (∀ (i : Nat) (p : ByteArray × Value) (c : List UInt8 × Tx × Tx), D[i]? = some p → C[i]? = some c → p.1 = ⟨c.1.toArray⟩ ∧ ∃ x y, p.2 = .agg #[x, y] ∧ Ts w S x c.2.1 ∧ Ts w S y c.2.2) →
    (clIn C k = none → lk ⟨k.toArray⟩ D = none) ∧ ∀ c, clIn C k = some c → ∃ x z, lk ⟨k.toArray⟩ D = some (.agg #[x, z]) ∧ Ts w S x c.1 ∧ Ts w S z c.2
  | [], [], _, _ => ⟨fun _ => rfl, fun m h => by cases h⟩
  | [], _ :: _, h, _ => by simp at h
  | _ :: _, [], h, _ => by simp at h
  | p :: D, c :: C, hl, h => by
    obtain ⟨e, x, y, e2, t1, t2⟩ := h 0 p c rfl rfl
    obtain ⟨i1, i2⟩ := cls_lk k D C (by simpa using hl) (fun i p c hp hc => h (i + 1) p c hp hc)
    unfold clIn lk
    rw [e, ba_inj]
    by_cases hk : k = c.1
    · rw [if_pos hk, if_pos (decide_eq_true hk)]
      exact ⟨fun h => (by cases h), fun m h => ⟨x, y, by rw [e2], by rw [← Option.some.inj h]; exact t1, by rw [← Option.some.inj h]; exact t2⟩⟩
    · rw [if_neg hk, if_neg (by rw [decide_eq_false hk]; simp)]
      exact ⟨i1, i2⟩
theorem ClsAt.no {w : World} {b : Nat} {k : List UInt8} {C : List (List UInt8 × Tx × Tx)} (h : ClsAt w b C) (hk : clIn C k = none) : ∃ D, MpAt w b D ∧ lk ⟨k.toArray⟩ D = none := by
  obtain ⟨D, h1, h2, h3⟩ := h
  exact ⟨D, h1, (cls_lk k D C h2 h3).1 hk⟩
theorem ClsAt.yes {w : World} {b : Nat} {k : List UInt8} {c : Tx × Tx} {C : List (List UInt8 × Tx × Tx)} (h : ClsAt w b C) (hk : clIn C k = some c) : ∃ D x y, MpAt w b D ∧ lk ⟨k.toArray⟩ D = some (.agg #[x, y]) ∧ Ts w AllE x c.1 ∧ Ts w AllE y c.2 := by
  obtain ⟨D, h1, h2, h3⟩ := h
  obtain ⟨x, y, e, t1, t2⟩ := (cls_lk k D C h2 h3).2 c hk
  exact ⟨D, x, y, h1, e, t1.mono (fun _ _ _ => trivial), t2.mono (fun _ _ _ => trivial)⟩
section
variable {P : Program} {W0 w : World} {t kt et e : TypeId} {b : Nat} {C : List (List UInt8 × Tx × Tx)} {ops : Array Oper} {rest : List Oper} {o : Oper} {a : Act} {Q : Exit → Act → World → Prop}
structure ClsT (W0 w : World) (b : Nat) (C : List (List UInt8 × Tx × Tx)) : Prop where
  c : ClsAt w b C
  x : Mod (fun k => k = b) W0 w
theorem wp_cls (h : ClsAt w b C) {k : List UInt8} {m y : Tx} {vx vy : Value} (hx : Ts w (offB b) vx m) (hy : Ts w (offB b) vy y) (hn : clIn C k = none) (ht : P.underlying t = some (.map kt et)) (hk : P.underlying kt = some .string)
    (hgd : o.guard = none) (q r s : Operand) (ho : o.op = .insert t q r s) (h1 : a.eval q = .map (some b)) (h2 : a.eval r = .string ⟨k.toArray⟩) (h3 : a.eval s = .agg #[vx, vy])
    (hQ : ∀ w', ClsAt w' b (C ++ [(k, m, y)]) → Mod (fun j => j = b) w w' → wpList P ops Q rest (a.put o.dst undef) w') : wpList P ops Q (o :: rest) a w := by
  obtain ⟨D, d1, d2, d3⟩ := h
  refine wp_ins d1 ht hk ((cls_lk k D C d2 d3).1 hn) hgd q r s ho h1 h2 h3 fun w' hM hm => hQ w' ⟨_, hM, by simp [d2], fun i p c hp hc => ?_⟩ hm
  have ne : ∀ j, j < w.heap.size → offB b j → ¬ j = b := fun j _ h => h
  by_cases hi : i < D.length
  · rw [List.getElem?_append_left hi] at hp
    rw [List.getElem?_append_left (by omega)] at hc
    obtain ⟨e1, x, z, e2, t1, t2⟩ := d3 i p c hp hc
    exact ⟨e1, x, z, e2, t1.mod hm ne, t2.mod hm ne⟩
  · rw [List.getElem?_append_right (by omega)] at hp hc
    rw [d2] at hp
    obtain ⟨j, hj⟩ : ∃ j, i - C.length = j := ⟨_, rfl⟩
    rw [hj] at hp hc
    cases j with
    | zero =>
      obtain rfl := Option.some.inj hp
      obtain rfl := Option.some.inj hc
      exact ⟨rfl, vx, vy, rfl, hx.mod hm ne, hy.mod hm ne⟩
    | succ j => cases hp
theorem lit_off (w : World) (e : TypeId) (m : Tx) (hm : m.length ≤ maxLen) {b : Nat} (hb : b < w.heap.size) : Ts (w.alloc (.cells (m.map sv).toArray e)) (offB b) (.slice (some ⟨w.heap.size, 0, none⟩) m.length m.length) m := by
  have h := Sl.lit w e (m.map sv) (by rw [List.length_map]; exact hm)
  rw [List.length_map] at h
  exact h.mono fun k _ hk => by show k ≠ b; omega
theorem wp_cls1 (h : ClsT W0 w b C) {k : List UInt8} {m : Tx} {cm : Array Value} (hcm : cm = (m.map sv).toArray) (hn : clIn C k = none) (ht : P.underlying t = some (.map kt et)) (hk : P.underlying kt = some .string)
    (hgd : o.guard = none) (q r s : Operand) (ho : o.op = .insert t q r s) (h2 : a.eval r = .string ⟨k.toArray⟩) (h1 : a.eval q = .map (some b)) {g : Nat} (h3 : a.eval s = .agg #[.slice (some ⟨g, 0, none⟩) m.length m.length, .slice none 0 0]) (hg : w.heap.size = g)
    (hQ : ∀ w', ClsT W0 w' b (C ++ [(k, m, [])]) → wpList P ops Q rest (a.put o.dst undef) w') (hm : m.length ≤ maxLen := by decide) : wpList P ops Q (o :: rest) a (w.alloc (.cells cm e)) := by
  subst hcm
  subst hg
  have hb : b < w.heap.size := by obtain ⟨D, d1, _⟩ := h.c; exact d1.lt
  have x1 : Ext w (w.alloc (.cells (m.map sv).toArray e)) := (Mod.refl _ w).alloc _
  exact wp_cls (h.c.ext x1) (lit_off w e m hm hb) (Sl.nil _ _) hn ht hk hgd q r s ho h1 h2 h3 fun w' hM hm => hQ w' ⟨hM, (h.x.alloc _).then_ hm fun _ _ h => h⟩
theorem wp_cls2 (h : ClsT W0 w b C) {k : List UInt8} {m y : Tx} {cm cy : Array Value} (hcm : cm = (m.map sv).toArray) (hcy : cy = (y.map sv).toArray) (hn : clIn C k = none) (ht : P.underlying t = some (.map kt et)) (hk : P.underlying kt = some .string)
    (hgd : o.guard = none) (q r s : Operand) (ho : o.op = .insert t q r s) (h2 : a.eval r = .string ⟨k.toArray⟩) (h1 : a.eval q = .map (some b)) {g : Nat} (h3 : a.eval s = .agg #[.slice (some ⟨g, 0, none⟩) m.length m.length, .slice (some ⟨g + 1, 0, none⟩) y.length y.length]) (hg : w.heap.size = g)
    (hQ : ∀ w', ClsT W0 w' b (C ++ [(k, m, y)]) → wpList P ops Q rest (a.put o.dst undef) w') (hm : m.length ≤ maxLen := by decide) (hy : y.length ≤ maxLen := by decide) : wpList P ops Q (o :: rest) a ((w.alloc (.cells cm e)).alloc (.cells cy e)) := by
  subst hcm
  subst hg
  subst hcy
  have hb : b < w.heap.size := by obtain ⟨D, d1, _⟩ := h.c; exact d1.lt
  have x1 : Ext w (w.alloc (.cells (m.map sv).toArray e)) := (Mod.refl _ w).alloc _
  obtain ⟨w1, hw1⟩ : ∃ x, x = w.alloc (.cells (m.map sv).toArray e) := ⟨_, rfl⟩
  have s1 : w1.heap.size = w.heap.size + 1 := by rw [hw1]; simp
  have t1 := lit_off w e m hm hb
  rw [← hw1] at x1 t1 ⊢
  have x2 : Ext w1 (w1.alloc (.cells (y.map sv).toArray e)) := (Mod.refl _ w1).alloc _
  have t2 := lit_off w1 e y hy (b := b) (by omega)
  rw [s1] at t2
  have hx1 : Mod (fun k => k = b) W0 w1 := by rw [hw1]; exact h.x.alloc _
  exact wp_cls (h.c.ext (ext_trans x1 x2)) (t1.ext x2) t2 hn ht hk hgd q r s ho h1 h2 h3 fun w' hM hm => hQ w' ⟨hM, (hx1.alloc _).then_ hm fun _ _ h => h⟩
end
section
variable {w : World}
set_option maxHeartbeats 16000000 in
theorem classes_any : Calls Try.prog 36 #[] w fun e w' => ∃ b, e = .returned (.map (some b)) ∧ ClsAt w' b clTab ∧ w.heap.size ≤ b ∧ Ext w w' := by
  have hmm := @run_makeMap Try.prog
  have hT : ClsT (w.alloc (.map #[] 0)) (w.alloc (.map #[] 0)) w.heap.size [] := ⟨⟨[], MpAt.new w, rfl, fun i p c hp hc => by simp at hp⟩, Mod.refl _ _⟩
  have hx0 := Lib.hid (show Ext w (w.alloc (.map #[] 0)) from (Mod.refl _ w).alloc _)
  go_enter Try.func36, Try.ntmps36
  go_wp2_with ((with_reducible show wpList _ _ _ (⟨none, Op.insert _ _ _ _, _, _, _, _⟩ :: _) _ _); first
    | (refine wp_cls1 hT (k := [116, 111, 112]) (m := [[111, 98, 106, 101, 99, 116, 99, 108, 97, 115, 115]]) rfl rfl Try.underlying66 Try.underlying9 rfl _ _ _ rfl rfl rfl rfl (by simp) ?_; intro w1 hM; replace hT := hM; clear hM)
    | (refine wp_cls2 hT (k := [112, 101, 114, 115, 111, 110]) (m := [[99, 110], [115, 110]]) (y := [[117, 115, 101, 114, 112, 97, 115, 115, 119, 111, 114, 100], [116, 101, 108, 101, 112, 104, 111, 110, 101, 110, 117, 109, 98, 101, 114], [100, 101, 115, 99, 114, 105, 112, 116, 105, 111, 110], [116, 105, 116, 108, 101], [109, 97, 105, 108], [109, 97, 110, 97, 103, 101, 114], [100, 105, 115, 112, 108, 97, 121, 110, 97, 109, 101], [115, 101, 101, 97, 108, 115, 111], [108], [117, 105, 100], [117, 105, 100, 110, 117, 109, 98, 101, 114], [103, 105, 100, 110, 117, 109, 98, 101, 114], [111, 117]]) rfl rfl rfl Try.underlying66 Try.underlying9 rfl _ _ _ rfl rfl rfl rfl (by simp) ?_; intro w1 hM; replace hT := hM; clear hM)
    | (refine wp_cls2 hT (k := [111, 114, 103, 97, 110, 105, 122, 97, 116, 105, 111, 110]) (m := [[111]]) (y := [[100, 101, 115, 99, 114, 105, 112, 116, 105, 111, 110], [108], [116, 101, 108, 101, 112, 104, 111, 110, 101, 110, 117, 109, 98, 101, 114], [117, 115, 101, 114, 112, 97, 115, 115, 119, 111, 114, 100], [115, 101, 101, 97, 108, 115, 111]]) rfl rfl rfl Try.underlying66 Try.underlying9 rfl _ _ _ rfl rfl rfl rfl (by simp) ?_; intro w1 hM; replace hT := hM; clear hM)
    | (refine wp_cls2 hT (k := [111, 114, 103, 97, 110, 105, 122, 97, 116, 105, 111, 110, 97, 108, 117, 110, 105, 116]) (m := [[111, 117]]) (y := [[100, 101, 115, 99, 114, 105, 112, 116, 105, 111, 110], [108], [116, 101, 108, 101, 112, 104, 111, 110, 101, 110, 117, 109, 98, 101, 114], [117, 115, 101, 114, 112, 97, 115, 115, 119, 111, 114, 100], [115, 101, 101, 97, 108, 115, 111], [109, 97, 110, 97, 103, 101, 114]]) rfl rfl rfl Try.underlying66 Try.underlying9 rfl _ _ _ rfl rfl rfl rfl (by simp) ?_; intro w1 hM; replace hT := hM; clear hM)
    | (refine wp_cls2 hT (k := [100, 111, 109, 97, 105, 110]) (m := [[100, 99]]) (y := [[100, 101, 115, 99, 114, 105, 112, 116, 105, 111, 110], [111], [108]]) rfl rfl rfl Try.underlying66 Try.underlying9 rfl _ _ _ rfl rfl rfl rfl (by simp) ?_; intro w1 hM; replace hT := hM; clear hM)
    | (refine wp_cls2 hT (k := [97, 99, 99, 111, 117, 110, 116]) (m := [[117, 105, 100]]) (y := [[100, 101, 115, 99, 114, 105, 112, 116, 105, 111, 110], [108], [111], [111, 117], [117, 115, 101, 114, 112, 97, 115, 115, 119, 111, 114, 100], [117, 105, 100, 110, 117, 109, 98, 101, 114], [103, 105, 100, 110, 117, 109, 98, 101, 114]]) rfl rfl rfl Try.underlying66 Try.underlying9 rfl _ _ _ rfl rfl rfl rfl (by simp) ?_; intro w1 hM; replace hT := hM; clear hM)
    | (refine wp_cls2 hT (k := [103, 114, 111, 117, 112, 111, 102, 110, 97, 109, 101, 115]) (m := [[99, 110], [109, 101, 109, 98, 101, 114]]) (y := [[100, 101, 115, 99, 114, 105, 112, 116, 105, 111, 110], [111], [111, 117], [115, 101, 101, 97, 108, 115, 111]]) rfl rfl rfl Try.underlying66 Try.underlying9 rfl _ _ _ rfl rfl rfl rfl (by simp) ?_; intro w1 hM; replace hT := hM; clear hM))
  go_ret
  exact ⟨_, rfl, hT.c, Nat.le_refl _, Mod.trans hx0.out hT.x (fun _ _ h => h) fun k hk h => by omega⟩
end
end Go.Proofs.Ytdfjldlfimbimaa
