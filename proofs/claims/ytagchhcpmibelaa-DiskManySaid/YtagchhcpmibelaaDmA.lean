/- disk: two Disks side by side; DiskMany. -/
import Derived.Test.YtagchhcpmibelaaDkY
import Derived.Test.YtagchhcpmibelaaDkS
namespace Go.Proofs.Ytagchhcpmibelaa
open Go.RowKit Go.Maps Go.WideMaps
set_option maxRecDepth 100000

/-- Two Disks that share nothing, both younger than a world. -/
def Two (w0 w : World) (va : Value) (a : Ds) (vb : Value) (b : Ds) : Prop := ∃ Sa Sb, Dk Sa w va a ∧ Dk Sb w vb b ∧ In w0.heap.size w Sa ∧ In w0.heap.size w Sb ∧ (∀ k, Sa k → ¬ Sb k) ∧ Ext w0 w
theorem Two.symm {w0 w : World} {va vb : Value} {a b : Ds} (h : Two w0 w va a vb b) : Two w0 w vb b va a := by
  obtain ⟨Sa, Sb, h1, h2, h3, h4, h5, h6⟩ := h
  exact ⟨Sb, Sa, h2, h1, h4, h3, fun k hb ha => h5 k ha hb, h6⟩
theorem Two.ext {w0 w w' : World} {va vb : Value} {a b : Ds} (h : Two w0 w va a vb b) (x : Ext w w') : Two w0 w' va a vb b := by
  obtain ⟨Sa, Sb, h1, h2, h3, h4, h5, h6⟩ := h
  exact ⟨Sa, Sb, h1.ext x, h2.ext x, h3.ext x.size, h4.ext x.size, h5, ext_trans h6 x⟩
theorem Two.law {w0 w : World} {va vb : Value} {a b d : Ds} {P : Program} {f : FuncId} {args : Array Value} {E : Ending → Prop} (h : Two w0 w va a vb b)
    (hl : ∀ S, Dk S w va a → In w0.heap.size w S → Calls P f args w fun e w' => E e ∧ Dk (Grow S w) w' va d ∧ Mod S w w') :
    Calls P f args w fun e w' => E e ∧ Two w0 w' va d vb b := by
  obtain ⟨Sa, Sb, h1, h2, h3, h4, h5, h6⟩ := h
  refine (law_of h3 h6.size (hl Sa h1 h3)).mono ?_
  rintro e w' ⟨he, S', k1, k2, k3, k4⟩
  refine ⟨he, S', Sb, k1, h2.mod k4 (fun q _ hb ha => h5 q ha hb), k2, h4.ext k4.size, fun q hq hb => ?_, Mod.in_ext h6 k4 h3⟩
  rcases k3 q hq with h | h
  · exact h5 q h hb
  · have := (h4 q hb).2; omega
theorem Two.lawx {w0 w w1 : World} {va vb : Value} {a b d : Ds} {P : Program} {f : FuncId} {args : Array Value} {E : Ending → Prop} (h : Two w0 w va a vb b) (x : Ext w w1)
    (hl : ∀ S, Dk S w1 va a → In w0.heap.size w S → Calls P f args w1 fun e w' => E e ∧ Dk (Grow S w1) w' va d ∧ Mod S w1 w') :
    Calls P f args w1 fun e w' => E e ∧ Two w0 w' va d vb b := by
  obtain ⟨Sa, Sb, h1, h2, h3, h4, h5, h6⟩ := h
  refine (law_of (h3.ext x.size) (Nat.le_trans h6.size x.size) (hl Sa (h1.ext x) h3)).mono ?_
  rintro e w' ⟨he, S', k1, k2, k3, k4⟩
  refine ⟨he, S', Sb, k1, (h2.ext x).mod k4 (fun q _ hb ha => h5 q ha hb), k2, h4.ext (Nat.le_trans x.size k4.size), fun q hq hb => ?_, Mod.in_ext (ext_trans h6 x) k4 (h3.ext x.size)⟩
  have hxs := x.size
  rcases k3 q hq with h | h
  · exact h5 q h hb
  · have := (h4 q hb).2; omega
theorem Two.ext_ {w0 w : World} {va vb : Value} {a b : Ds} (h : Two w0 w va a vb b) : Ext w0 w := by
  obtain ⟨Sa, Sb, h1, h2, h3, h4, h5, h6⟩ := h
  exact h6
theorem Two.read {w0 w : World} {va vb : Value} {a b : Ds} (h : Two w0 w va a vb b) (x : List UInt8) (hl : x.length ≤ 1000000) :
    Calls Try.prog 23 #[va, sv x] w fun e w' => ∃ u, e = .returned (.tuple #[u, ev (codeR (readD a x))]) ∧ Own w' 5 u (((readD a x).getD []).map bv) ∧ Ext w w' := by
  obtain ⟨Sa, Sb, h1, h2, h3, h4, h5, h6⟩ := h
  exact (read_any h1 x hl).mono fun e w' ⟨u, k1, k2, _, k4⟩ => ⟨u, k1, k2, k4⟩
theorem Two.list {w0 w : World} {va vb : Value} {a b : Ds} (h : Two w0 w va a vb b) :
    Calls Try.prog 29 #[va] w fun e w' => ∃ u, e = .returned u ∧ OwnT w' u (nms a.L) ∧ Ext w w' := by
  obtain ⟨Sa, Sb, h1, h2, h3, h4, h5, h6⟩ := h
  exact (list_any h1).mono fun e w' ⟨u, k1, k2, _, k4⟩ => ⟨u, k1, k2, k4⟩
theorem Rw.nil_ (w : World) : Rw w (fun _ => False) (.slice none 0 0) [] := ⟨[], rfl, Sl.nil _ _, fun k x l h => by simp at h⟩
theorem Ts.nil_ (w : World) : Ts w (fun _ => False) (.slice none 0 0) [] := Sl.nil _ _
theorem three_names (w : World) (x y z : List UInt8) : Ts (w.alloc (.cells #[sv x, sv y, sv z] 9)) (fun k => k = w.heap.size) (.slice (some ⟨w.heap.size, 0, none⟩) 3 3) [x, y, z] := Sl.lit w 9 [sv x, sv y, sv z] (by simp [maxLen])
def sx (F : List UInt8) (n : Nat) : Ds := st [⟨[120], F, n⟩]
def sxy (F : List UInt8) (n m : Nat) : Ds := st [⟨[120], F, n⟩, ⟨[121], [49, 50], m⟩]
theorem mn_app {P : Tx} (h : tot P ≤ 8000) : appendD (newD 1048576) [120] P = (sx P.flatten 0, 0) := by
  have e : newD 1048576 = st [] := rfl
  rw [e, st_app (by decide) (by simp [sumB]; omega) (by simp)]
  rfl
theorem mn_app1 {P : Tx} {k : Nat} (hk : k < P.length) (h : tot P ≤ 8000) : appendD (sx (P.take k).flatten 0) [120] [P[k]] = (sx (P.take (k + 1)).flatten 0, 0) := by
  have hs := tot_snoc P k hk
  have hl := tot_le P (k + 1)
  have hf := flat_len (P.take k)
  have := st_app (L := [⟨[120], (P.take k).flatten, 0⟩]) (x := [120]) (P := [P[k]]) (by decide) (by simp [sumB, tot] at *; omega) (by simp)
  rw [sx, this, flat_snoc2 P k hk]
  simp [sx, getF, putF]
theorem mn_app2 {F : List UInt8} (h : F.length ≤ 8000) : appendD (sx F 0) [121] [[49, 50]] = (sxy F 0 0, 0) := by
  have := st_app (L := [⟨[120], F, 0⟩]) (x := [121]) (P := [[49, 50]]) (by decide) (by simp [sumB, tot]; omega) (by simp)
  rw [sx, this]
  simp [sxy, getF, putF, Op.bytesLess]
theorem mn_sync2 {F : List UInt8} : eachD syncD (sxy F 0 0) [[120], [121]] = (sxy F F.length 2, 0) := rfl
theorem mn_syncx {F : List UInt8} {n m : Nat} : eachD syncD (sxy F n m) [[120]] = (sxy F F.length m, 0) := rfl
theorem mn_syncy {F : List UInt8} {n m : Nat} : eachD syncD (sxy F n m) [[121]] = (sxy F n 2, 0) := rfl
theorem mn_sync3 {F : List UInt8} {n m : Nat} : eachD syncD (sxy F n m) [[120], [122], [121]] = (sxy F F.length m, 7) := rfl
theorem mn_sync0 {F : List UInt8} {n m : Nat} : eachD syncD (sxy F n m) [] = (sxy F n m, 0) := rfl
theorem mn_remove {F : List UInt8} {m : Nat} {dr : Int} : eachD removeD (crashD dr (sxy F F.length m)) [[120], [121]] = (st [], 0) := rfl
theorem mn_remove1 : eachD removeD (st []) [[120]] = (st [], 7) := rfl
theorem one_row {w0 w : World} {T : Nat → Prop} {v : Value} {l : List UInt8} (h : Bs w0 T v l) (hx : Ext w0 w) : Rw (w.alloc (.cells #[v] 32)) (fun k => T k ∨ k = w.heap.size) (.slice (some ⟨w.heap.size, 0, none⟩) 1 1) [l] :=
  Rw.one 32 (h.mod hx (fun _ _ _ h => h))
end Go.Proofs.Ytagchhcpmibelaa
