/- mem: the example that each statement looks at. -/
import Derived.Test.YtlfooppmdgddkaaMemI
namespace Go.Proofs.Ytlfooppmdgddkaa
open Go.RowKit Go.ChangeShapes
set_option maxRecDepth 100000

def k9a : Ce := ⟨[97], [120], false, 1⟩
def k9b : Ce := ⟨[97], [], true, 2⟩
theorem k9_one : putL [] k9a = (true, [k9a]) := by decide +kernel
theorem k9_two : putL [k9a] k9b = (true, [k9b, k9a]) := by decide +kernel
theorem k9_get2 : outS (firstC [k9b, k9a] [97] 2) = (k9b, true) := by decide +kernel
theorem k9_get1 : outS (firstC [k9b, k9a] [97] 1) = (k9a, true) := by decide +kernel
theorem Mt.mod {w w' : World} {S F : Nat → Prop} {g : Nat} {D : List Int} {L : List Ce} (h : Mt w S g D L) (hm : Mod F w w') (hF : ∀ k, k < w.heap.size → S k → ¬ F k) : Mt w' S g D L := by
  obtain ⟨N, A, vd, vn, va, m, r⟩ := h
  exact ⟨N, A, vd, vn, va, m.mod hm hF, r⟩
theorem Mt.ext {w w' : World} {S : Nat → Prop} {g : Nat} {D : List Int} {L : List Ce} (h : Mt w S g D L) (hm : Ext w w') : Mt w' S g D L := h.mod hm (fun _ _ _ h => h)
theorem Mt.mono {w : World} {S T : Nat → Prop} {g : Nat} {D : List Int} {L : List Ce} (h : Mt w S g D L) (hT : ∀ k, k < w.heap.size → S k → T k) : Mt w T g D L := by
  obtain ⟨N, A, vd, vn, va, m, r⟩ := h
  exact ⟨N, A, vd, vn, va, m.mono hT, r⟩
section
variable {w : World} {S : Nat → Prop} {g : Nat} {D : List Int} {L : List Ce}
theorem getM_any (h : Mt w S g D L) (key : List UInt8) (seq : Int) :
    Calls Try.prog 40 #[.pointer (some ⟨g, 0, none⟩), sv key, .int .i64 seq] w fun e w' => e = .returned (.tuple #[.agg (car (outS (firstC L key seq)).1), .bool (outS (firstC L key seq)).2]) ∧ Ext w w' := by
  obtain ⟨N, A, vd, vn, va, m, ok, hC⟩ := h
  exact get9_any m ok key seq
theorem scanM_any (h : Mt w S g D L) (hL : L.length ≤ 1000000) (a b : List UInt8) :
    Calls Try.prog 43 #[.pointer (some ⟨g, 0, none⟩), sv a, sv b] w fun e w' => ∃ v', e = .returned v' ∧ OwnC w' v' (scanC L a b) ∧ Fresh w.heap.size v' ∧ Ext w w' := by
  obtain ⟨N, A, vd, vn, va, m, ok, hC⟩ := h
  exact scan9_any m ok hC hL a b
theorem allM_any (h : Mt w S g D L) (hL : L.length ≤ 1000000) :
    Calls Try.prog 45 #[.pointer (some ⟨g, 0, none⟩)] w fun e w' => ∃ v', e = .returned v' ∧ OwnC w' v' L ∧ Fresh w.heap.size v' ∧ Ext w w' := by
  obtain ⟨N, A, vd, vn, va, m, ok, hC⟩ := h
  exact all9_any m ok hC hL
theorem sizeM_any (h : Mt w S g D L) : Calls Try.prog 47 #[.pointer (some ⟨g, 0, none⟩)] w fun e w' => e = .returned (.int .i64 (sizeL L : Nat)) ∧ Ext w w' := by
  obtain ⟨N, A, vd, vn, va, m, ok, hC⟩ := h
  exact size9_any m
theorem lenM_any (h : Mt w S g D L) (hL : L.length ≤ 1000000) : Calls Try.prog 46 #[.pointer (some ⟨g, 0, none⟩)] w fun e w' => e = .returned (.int .i64 (L.length : Nat)) ∧ Ext w w' := by
  obtain ⟨N, A, vd, vn, va, m, ok, hC⟩ := h
  exact len9_any m ok hL
/-- Put, of a Mem that lies in blocks of a world's end. -/
theorem putB_any {B : Nat} (h : Mt w (fun k => B ≤ k) g D L) (hB : B ≤ w.heap.size) (c : Ce) (hL : L.length ≤ 10000) (hD : D.length ≤ 1000000) :
    Calls Try.prog 38 #[.pointer (some ⟨g, 0, none⟩), .agg (car c)] w fun e w' => e = .returned (.bool (putL L c).1) ∧ Mt w' (fun k => B ≤ k) g D (putL L c).2 ∧ Mod (fun k => B ≤ k) w w' := by
  refine (put_any h c hL hD).mono ?_
  rintro e w' ⟨rfl, h2, h3⟩
  exact ⟨rfl, h2.mono (fun k _ h => h.elim (fun h => h) (fun h => Nat.le_trans hB h)), h3⟩
end

set_option maxHeartbeats 8000000 in
theorem known9_any {w : World} : Calls Try.prog 49 #[] w fun e w' => e = .returned (.bool true) ∧ Ext w w' := by
  have x0 : Ext w (w.alloc (.cells #[.int .u32 1, .int .u32 2, .int .u32 3] 99)) := (Mod.refl _ w).alloc _
  have hS : Sl (w.alloc (.cells #[.int .u32 1, .int .u32 2, .int .u32 3] 99)) (fun k => k = w.heap.size) (.slice (some ⟨w.heap.size, 0, none⟩) 3 3) (([1, 2, 3] : List Int).map dv) := Sl.lit w 99 (([1, 2, 3] : List Int).map dv) (by simp [maxLen])
  have hnw := new_any hS (by simp)
  obtain ⟨w0, hw0⟩ : ∃ w0, w0 = w.alloc (.cells #[.int .u32 1, .int .u32 2, .int .u32 3] 99) := ⟨_, rfl⟩
  rw [← hw0] at x0 hS hnw
  replace hw0 := Lib.hid hw0
  go_enter Try.func49, Try.ntmps49
  go_wp2_with fail
  rw [← hw0.out]
  refine hnw.mono ?_
  rintro e w1 ⟨g, rfl, M1, x1⟩
  have hB1 : w0.heap.size ≤ w1.heap.size := x1.size
  have hp1 := putB_any M1 hB1 k9a (by simp) (by simp)
  rw [k9_one] at hp1
  have x1' := ext_trans x0 x1
  clear hnw hS M1
  go_wp2_with fail
  refine hp1.mono ?_
  rintro e w2 ⟨rfl, M2, y2⟩
  have hB2 : w0.heap.size ≤ w2.heap.size := Nat.le_trans hB1 y2.size
  have hp2 := putB_any M2 hB2 k9b (by simp) (by simp)
  rw [k9_two] at hp2
  have x2 : Ext w w2 := x1'.trans y2 (fun _ _ h => h) (fun k hk h => by have := x0.size; omega)
  clear hp1 y2 M2
  go_wp2_with fail
  refine hp2.mono ?_
  rintro e w3 ⟨rfl, M3, y3⟩
  have x3 : Ext w w3 := x2.trans y3 (fun _ _ h => h) (fun k hk h => by have := x0.size; omega)
  have hg2 := fun (wx : World) (hx : Ext w3 wx) => k9_get2 ▸ getM_any (M3.ext hx) [97] 2
  have hg1 := fun (wx : World) (hx : Ext w3 wx) => k9_get1 ▸ getM_any (M3.ext hx) [97] 1
  have hln := fun (wx : World) (hx : Ext w3 wx) => lenM_any (M3.ext hx) (by simp)
  clear hp2 y3 M3 x2 x1 x1' x0
  go_wp2_with fail
  refine (hg2 _ (Mod.refl _ _)).mono ?_
  rintro e w4 ⟨rfl, x4⟩
  have B4 : Blk (w4.alloc (.cells (car k9b) 23)) w4.heap.size 23 (car k9b) := Blk.new w4 _ _
  have x5 : Ext w3 (w4.alloc (.cells (car k9b) 23)) := x4.alloc _
  go_wp2_with fail
  refine (hg1 _ x5).mono ?_
  rintro e w6 ⟨rfl, x6⟩
  have B6 := (B4.mod x6 (fun h => h)).alloc (.cells (car k9a) 23)
  have C6 : Blk (w6.alloc (.cells (car k9a) 23)) w6.heap.size 23 (car k9a) := Blk.new w6 _ _
  have x7 : Ext w3 (w6.alloc (.cells (car k9a) 23)) := (ext_trans x5 x6).alloc _
  obtain ⟨w7, hw7⟩ : ∃ w7, w7 = w6.alloc (.cells (car k9a) 23) := ⟨_, rfl⟩
  rw [← hw7] at B6 C6 x7
  replace hw7 := Lib.hid hw7
  have e2 : w7.cell? ⟨w4.heap.size, 2, none⟩ = some (.bool true) := B6.cell 2
  have e1 : w7.cell? ⟨w6.heap.size, 1, none⟩ = some (sv [120]) := C6.cell 1
  clear hg1 hg2 B4 B6 C6 x5 x6
  go_upto_region 7 with fail
  rw [← hw7.out]
  go_wp2_with fail
  refine (hln _ x7).mono ?_
  rintro e w8 ⟨rfl, x8⟩
  go_wp2_with fail
  go_ret
  exact ⟨rfl, ext_trans x3 (ext_trans x7 x8)⟩
theorem u32_in {H : Type} {enc : TypeId × Value → H} {P : Program} {W : World} {base : Nat} {spare : Nat → Bool} {held : Bool} {t e : TypeId} {v : Value} {d : DataW H} {p : List MemPlace}
    (ht : P.underlying t = some (.slice e)) (he : P.underlying e = some (.int .u32)) (hc : P.cellsOf e = 1) (hv : ∃ a len cap, v = .slice a len cap) (h : DataW.Trod enc P W base spare held t v d p) :
    ∃ l : List Int, Sl W (fun _ => True) v (l.map dv) := by
  obtain ⟨a0, len0, cap0, rfl⟩ := hv
  obtain ⟨fuel, hf⟩ := h
  rcases Go.ChangeShapes.open_ints ht he hc hf with ⟨hcs, _⟩ | ⟨x, l, c, zs, hcs, _, hl, hm, hz, _, hcell, hwz⟩
  · simp [Value.cells] at hcs
    obtain ⟨rfl, rfl, rfl⟩ := hcs
    exact ⟨[], Sl.nil _ _⟩
  · simp [Value.cells] at hcs
    obtain ⟨rfl, rfl, rfl⟩ := hcs
    have hzl : len0 ≤ zs.length := by split at hz <;> omega
    refine ⟨zs.take len0, x |> some, cap0, by simp; omega, by simp; omega, hm, by simp, fun k u hu => ⟨x, rfl, trivial, ?_⟩⟩
    rw [List.getElem?_map, List.getElem?_take] at hu
    split at hu
    · have hk2 : k < zs.length := by omega
      rw [List.getElem?_eq_getElem hk2] at hu
      simp at hu
      rw [← hu, hcell k hk2]
      simp [hk2]
    · simp at hu

theorem u32_in_sized {H : Type} {enc : TypeId × Value → H} {P : Program} {W : World} {base : Nat} {spare : Nat → Bool} {held : Bool} {t e : TypeId} {v : Value} {d : DataW H} {p : List MemPlace} {ts : List TypeId} {ds : List (DataW H)} {j : Nat}
    (ht : P.underlying t = some (.slice e)) (he : P.underlying e = some (.int .u32)) (hc : P.cellsOf e = 1) (hby : P.bytesOf e = 4) (hv : ∃ a len cap, v = .slice a len cap) (h : DataW.Trod enc P W base spare held t v d p)
    (hsz : (DataW.weightsEach P ts ds).all (· ≤ reachBytes) = true) (htj : ts[j]? = some t) (hj : ds[j]? = some d) : ∃ l : List Int, Sl W (fun _ => True) v (l.map dv) ∧ l.length ≤ 140737488351232 := by
  obtain ⟨l, hl⟩ := u32_in ht he hc hv h
  refine ⟨l, hl, ?_⟩
  obtain ⟨a0, len0, cap0, rfl⟩ := hv
  have hlen : len0 = l.length := by
    obtain ⟨A, c, e, _⟩ := hl.open_
    injection e
  obtain ⟨fuel, hf⟩ := h
  rcases Go.ChangeShapes.open_ints ht he hc hf with ⟨hcs, _⟩ | ⟨x, ln, c, zs, hcs, _, hl2, hm, hz, hx, _, _⟩
  · simp [Value.cells] at hcs
    omega
  · simp [Value.cells] at hcs
    obtain ⟨rfl, rfl, rfl⟩ := hcs
    have hzl : len0 ≤ zs.length := by split at hz <;> omega
    injection hx with hd _
    subst hd
    have := sized_slice hsz htj hj ht
    rw [hby] at this
    simp only [Go.ChangeShapes.lits, List.length_map, List.length_take, List.length_drop, reachBytes] at this
    omega
end Go.Proofs.Ytlfooppmdgddkaa
