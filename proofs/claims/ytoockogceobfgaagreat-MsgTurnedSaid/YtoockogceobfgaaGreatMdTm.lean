/- dn: the reader: end, is, blanks; digit; IndexByte. -/
import Derived.Test.YtoockogceobfgaaGreatEnxm
import Derived.Lib.Bytealg
import Derived.Deep.RegionHeld3
import Derived.Deep.QuietTactic
import Derived.BigQuiet
import Derived.Laws.ResultCell
import Derived.Test.YtoockogceobfgaaGreatRegAm
import Derived.Test.YtoockogceobfgaaGreatMfCm
namespace Go.Proofs.YtoockogceobfgaaGreat
open Go.RowKit
set_option maxRecDepth 100000

theorem idx_mem (l : List UInt8) (b : UInt8) : decide ((0 : Int) ≤ Lib.indexByte l b) = decide (b ∈ l) := by
  apply decide_eq_decide.2
  induction l with
  | nil => simp [Lib.indexByte]
  | cons a l ih =>
    have hge := Lib.indexByte_ge l b
    unfold Lib.indexByte
    by_cases h : a = b
    · simp [h]
    · rw [if_neg (by simpa using h)]
      by_cases h2 : Lib.indexByte l b = -1
      · rw [if_pos (by simpa using h2)]
        rw [h2] at ih
        simp only [List.mem_cons]
        constructor
        · intro h3; omega
        · rintro (h3 | h3)
          · exact absurd h3.symm h
          · have := ih.2 h3; omega
      · rw [if_neg (by simpa using h2)]
        simp only [List.mem_cons]
        constructor
        · intro _; exact .inr (ih.1 (by omega))
        · rintro (h3 | h3)
          · exact absurd h3.symm h
          · have := ih.2 h3; omega

/-- A digit of sixteen. -/
def digB (b : UInt8) : Option UInt8 := if 48 ≤ b.toNat ∧ b.toNat ≤ 57 then some (b - 48) else if 97 ≤ b.toNat ∧ b.toNat ≤ 102 then some (b - 97 + 10) else if 65 ≤ b.toNat ∧ b.toNat ≤ 70 then some (b - 65 + 10) else none
theorem step_mod {w : World} {g : Nat} (u : Value) : Mod (fun b => b = g) w (w.setCell ⟨g, 1, none⟩ u) := (Mod.refl (fun b => b = g) w).setCell (p := ⟨g, 1, none⟩) (fun _ => rfl) u

end Go.Proofs.YtoockogceobfgaaGreat
namespace Go.Proofs.YtoockogceobfgaaGreat
open Go.RowKit
set_option maxRecDepth 100000

/-- What stands behind blanks. -/
def skipB : List UInt8 → List UInt8
  | [] => []
  | b :: l => if b = 32 then skipB l else b :: l
/-- How far a reader has come. -/
def rdAt (w : World) (g : Nat) : Nat := (intOf ((w.cell? ⟨g, 1, none⟩).getD undef)).toNat
end Go.Proofs.YtoockogceobfgaaGreat
namespace Go.Proofs.YtoockogceobfgaaGreat
open Go.RowKit
set_option maxRecDepth 100000

/-- What may stand behind a stroke. -/
def mayB : List UInt8 := [44, 43, 34, 92, 60, 62, 59, 35, 61, 32]
/-- What stands behind a stroke, and what is left. -/
def escR : List UInt8 → Option (UInt8 × List UInt8)
  | [] => none
  | c :: l => if c ∈ mayB then some (c, l) else (digB c).bind fun x => l.head?.bind fun d => (digB d).map fun y => (x <<< 4 ||| y, l.tail)
theorem ext_mod {F : Nat → Prop} {a b : World} (h : Ext a b) : Mod F a b := h.mono (fun _ _ h => h.elim)
theorem digB_lt {b x : UInt8} (h : digB b = some x) : x.toNat < 16 := by
  have h8 := b.toNat_lt
  unfold digB at h
  split at h
  · rename_i h1; cases h; rw [UInt8.toNat_sub, show (48 : UInt8).toNat = 48 from rfl]; omega
  · split at h
    · cases h; rw [UInt8.toNat_add, UInt8.toNat_sub, show (97 : UInt8).toNat = 97 from rfl, show (10 : UInt8).toNat = 10 from rfl]; omega
    · split at h
      · cases h; rw [UInt8.toNat_add, UInt8.toNat_sub, show (65 : UInt8).toNat = 65 from rfl, show (10 : UInt8).toNat = 10 from rfl]; omega
      · cases h
theorem hilo_eq (x y : UInt8) (hx : x.toNat < 16) (hy : y.toNat < 16) : ((x <<< 4 ||| y).toNat : Int) = (x.toNat : Int) * 16 + (y.toNat : Int) := by
  have e : (x <<< 4 ||| y).toNat = x.toNat * 16 + y.toNat := by
    have h := fun (a b : Fin 16) => (show ((UInt8.ofNat a.1) <<< 4 ||| UInt8.ofNat b.1).toNat = a.1 * 16 + b.1 from by revert a b; decide)
    have h1 := h ⟨x.toNat, hx⟩ ⟨y.toNat, hy⟩
    simpa using h1
  omega

theorem bits_eq (x y : UInt8) (hx : x.toNat < 16) (hy : y.toNat < 16) : bits BinOp.or IntKind.u8 ((x.toNat : Int) * 16) (y.toNat : Int) = ((x <<< 4 ||| y).toNat : Int) := by
  rw [hilo_eq x y hx hy]
  have h := fun (a b : Fin 16) => (show bits BinOp.or IntKind.u8 ((a.1 : Int) * 16) (b.1 : Int) = (a.1 : Int) * 16 + (b.1 : Int) from by revert a b; decide)
  exact h ⟨x.toNat, hx⟩ ⟨y.toNat, hy⟩

end Go.Proofs.YtoockogceobfgaaGreat
namespace Go.Proofs.YtoockogceobfgaaGreat
open Go.RowKit
set_option maxRecDepth 100000

/-- What doesn't stand by itself in a value. -/
def sepB : List UInt8 := [44, 43, 34, 92, 60, 62, 59]
def valF : Nat → List UInt8 → List UInt8 → Nat → Option (List UInt8 × List UInt8)
  | 0, _, _, _ => none
  | _ + 1, [], out, n => some (out.take n, [])
  | f + 1, b :: l, out, n =>
    if b = 44 then some (out.take n, b :: l)
    else if b = 92 then (escR l).bind fun p => valF f p.2 (out ++ [p.1]) (out.length + 1)
    else if b ∈ sepB then none
    else valF f l (out ++ [b]) (if b = 32 then n else out.length + 1)
/-- A value with the blanks around it, and what is left. -/
def valueB (l : List UInt8) : Option (List UInt8 × List UInt8) := valF ((skipB l).length + 1) (skipB l) [] 0

theorem own_shape1 {w : World} {e : TypeId} {v : Value} {l : List UInt8} {b : UInt8} (h : Own w e v ((l ++ [b]).map bv)) : ∃ A c, v = .slice A (l.length + 1) c := by
  obtain ⟨A, c, h⟩ := h.shape
  exact ⟨A, c, by rw [h]; simp⟩

end Go.Proofs.YtoockogceobfgaaGreat
namespace Go.Proofs.YtoockogceobfgaaGreat
open Go.RowKit
set_option maxRecDepth 100000

def typP (b : UInt8) : Bool := decide (typN b.toNat)
/-- A type and a value, and what is left. -/
def partR (l : List UInt8) : Option ((List UInt8 × List UInt8) × List UInt8) :=
  if isTyp ((skipB l).takeWhile typP) then
    match skipB ((skipB l).dropWhile typP) with
    | 61 :: l3 => (valueB l3).bind fun p => if p.1 = [] then none else some (((skipB l).takeWhile typP, p.1), p.2)
    | _ => none
  else none
def Tk (s : List UInt8) (a j : Nat) : Prop := (s.drop a).takeWhile typP = (s.drop a).take (j - a) ++ (s.drop j).takeWhile typP ∧ (s.drop a).dropWhile typP = (s.drop j).dropWhile typP
theorem Tk.start (s : List UInt8) (a : Nat) : Tk s a a := ⟨by simp, rfl⟩
theorem Tk.next {s : List UInt8} {a j : Nat} (h : Tk s a j) (ha : a ≤ j) (hj : j < s.length) (hp : typP s[j] = true) : Tk s a (j + 1) := by
  obtain ⟨h1, h2⟩ := h
  have hd := List.drop_eq_getElem_cons hj
  refine ⟨?_, ?_⟩
  · rw [h1, hd, List.takeWhile_cons, if_pos hp]
    have ht : (s.drop a).take (j + 1 - a) = (s.drop a).take (j - a) ++ [s[j]] := by
      rw [show j + 1 - a = (j - a) + 1 by omega, List.take_succ_eq_append_getElem (by rw [List.length_drop]; omega), List.getElem_drop]
      congr 2
      congr 1
      omega
    rw [ht, List.append_assoc]
    rfl
  · rw [h2, hd, List.dropWhile_cons, if_pos hp]
theorem Tk.stop {s : List UInt8} {a j : Nat} (h : Tk s a j) (hp : ∀ h : j < s.length, typP s[j] = false) : (s.drop a).takeWhile typP = (s.drop a).take (j - a) ∧ (s.drop a).dropWhile typP = s.drop j := by
  obtain ⟨h1, h2⟩ := h
  by_cases hj : j < s.length
  · have hd := List.drop_eq_getElem_cons hj
    have := hp hj
    constructor
    · rw [h1, hd, List.takeWhile_cons, if_neg (by rw [this]; decide), List.append_nil]
    · rw [h2, hd, List.dropWhile_cons, if_neg (by rw [this]; decide)]
  · have hd : s.drop j = [] := List.drop_of_length_le (by omega)
    constructor
    · rw [h1, hd, List.takeWhile_nil, List.append_nil]
    · rw [h2, hd, List.dropWhile_nil]

theorem ext_sv (s : List UInt8) (a j : Nat) : (⟨s.toArray⟩ : ByteArray).extract a j = ⟨((s.drop a).take (j - a)).toArray⟩ := by
  apply ByteArray.ext
  simp [ByteArray.data_extract]
theorem results_cell_row2 {P : Program} {fn : Func} {p u : Tmp} {ty : TypeId} (h : fn.results = #[.cell p ty, .tmp u]) (tmps : Array Value) (w : World) (g : Nat) (t : TypeId) (cs : Array Value) (fr : Nat × Nat) (d : TypeDesc)
    (hp : tmps.getD p undef = .pointer (some ⟨g, 0, none⟩)) (hg : w.heap[g]? = some (.cells cs t fr))
    (hu : P.underlying ty = some d) (hd : (match d with | .struct _ | .array _ _ => true | _ => false) = true) (hi : (P.info? ty).map (·.size) = some cs.size) :
    (results fn tmps).run P w = .ok (.tuple #[.agg cs, tmps.getD u undef]) w := by
  have hp' : tmps[p]?.getD undef = .pointer (some ⟨g, 0, none⟩) := by simpa using hp
  rw [results_cell_tmp h]
  simp [hp', asAddr, Result.andThen, run_loadVar_row w g t ty cs fr d hg hu hd hi]

end Go.Proofs.YtoockogceobfgaaGreat
namespace Go.Proofs.YtoockogceobfgaaGreat
open Go.RowKit
set_option maxRecDepth 100000

/-- A request of nothing. -/
abbrev z21 : Array Value := #[.int .i64 0, .int .i64 0, .string ⟨#[]⟩, .string ⟨#[]⟩, .int .i64 0, .int .i64 0, .int .i64 0, .string ⟨#[]⟩, .string ⟨#[]⟩, .slice none 0 0, .slice none 0 0, .slice none 0 0, .slice none 0 0, .slice none 0 0, .string ⟨#[]⟩, .bool false, .bool false, .string ⟨#[]⟩, .string ⟨#[]⟩, .string ⟨#[]⟩, .int .i64 0]
set_option maxHeartbeats 8000000 in
theorem dec_err_any {w : World} {S : Nat → Prop} {v : Value} {l : List UInt8} {k : Nat} (h : Bs w S v l) (hl : l.length ≤ 100000) (he : (bnext l).2.2.2 = k) (hk : k ≠ 0) :
    Calls Tryz.prog 9 #[v] w fun e w' => e = .returned (.tuple #[.agg z21, .int .i64 (k : Int)]) ∧ Ext w w' := by
  obtain ⟨w2, hw2⟩ : ∃ x, x = w.alloc (.cells z21 32) := ⟨_, rfl⟩
  obtain ⟨q, hq⟩ : ∃ q, q = w.heap.size := ⟨_, rfl⟩
  have x2 : Ext w w2 := by rw [hw2]; exact (Mod.refl _ w).alloc _
  have BQ : Blk w2 q 32 z21 := by rw [hw2, hq]; exact Blk.new w _ _
  have hn := bnext_any (h.ext x2) (by omega)
  have hqn : ¬ q < w.heap.size := by omega
  replace hw2 := Lib.hid hw2
  replace hq := Lib.hid hq
  obtain ⟨A, c, rfl, -, -, -, -⟩ := h.open_
  generalize bnext l = o at hn he
  obtain ⟨t, bd, rs, k2⟩ := o
  simp only at hn he
  subst he
  have hb : ((k2 : Int) != 0) = true := bne_iff_ne.2 (by omega)
  clear h
  go_enter Tryz.func9, Tryz.ntmps9
  go_upto_region 1 with fail
  rw [← hw2.out, ← hq.out]
  clear hw2 hq
  go_wp2_with fail
  refine hn.mono ?_
  rintro e w3 ⟨v1, v2, rfl, o1, o2, -, -, x3⟩
  have BQ3 := BQ.mod x3 (fun h => h)
  have z3 := ext_trans x2 x3
  clear hn BQ x2 x3
  clear o1 o2
  go_wp2_with ((with_reducible show wpList _ _ _ (⟨none, .store 32 _ _, _, _, _, _⟩ :: _) _ _); refine wpList_store_row rfl 32 (.tmp 2) (.tmp 19) rfl _ z21 rfl rfl _ _ BQ3 size21 rfl (by simp [Value.oneCell']) ?_)
  refine bodyPost_ret (results_cell_row2 Tryz.results9 _ _ _ _ _ _ _ rfl (BQ3.setRow z21) Tryz.underlying32 rfl (by exact size21)) rfl ?_
  exact ⟨rfl, z3.setRow (fun h => absurd h hqn) _⟩
set_option maxHeartbeats 8000000 in
theorem dec_rest_any {w : World} {S : Nat → Prop} {v : Value} {l bd rs : List UInt8} (h : Bs w S v l) (hl : l.length ≤ 100000) (he : bnext l = (48, bd, rs, 0)) (hr : rs ≠ []) :
    Calls Tryz.prog 9 #[v] w fun e w' => e = .returned (.tuple #[.agg z21, .int .i64 3]) ∧ Ext w w' := by
  obtain ⟨w2, hw2⟩ : ∃ x, x = w.alloc (.cells z21 32) := ⟨_, rfl⟩
  obtain ⟨q, hq⟩ : ∃ q, q = w.heap.size := ⟨_, rfl⟩
  have x2 : Ext w w2 := by rw [hw2]; exact (Mod.refl _ w).alloc _
  have BQ : Blk w2 q 32 z21 := by rw [hw2, hq]; exact Blk.new w _ _
  have hn := bnext_any (h.ext x2) (by omega)
  have hqn : ¬ q < w.heap.size := by omega
  replace hw2 := Lib.hid hw2
  replace hq := Lib.hid hq
  obtain ⟨A, c, rfl, -, -, -, -⟩ := h.open_
  rw [he] at hn
  have hrl : 0 < rs.length := List.length_pos_iff.2 hr
  have ht : ((48 : UInt8).toNat : Int) = 48 := rfl
  have b1 : decide ((rs.length : Int) > 0) = true := dtrue (by omega)
  have b2 : decide ((0 : Int) < (rs.length : Int)) = true := dtrue (by omega)
  have b3 : decide (0 < rs.length) = true := dtrue hrl
  clear h he hr
  go_enter Tryz.func9, Tryz.ntmps9
  go_upto_region 1 with fail
  rw [← hw2.out, ← hq.out]
  clear hw2 hq
  go_wp2_with fail
  refine hn.mono ?_
  rintro e w3 ⟨v1, v2, rfl, o1, o2, -, -, x3⟩
  have BQ3 := BQ.mod x3 (fun h => h)
  have z3 := ext_trans x2 x3
  clear hn BQ x2 x3
  obtain ⟨A1, c1, e1⟩ := o1.shape
  obtain ⟨A2, c2, e2⟩ := o2.shape
  rw [List.length_map] at e1 e2
  subst e1
  subst e2
  clear o1 o2
  go_wp2_with ((with_reducible show wpList _ _ _ (⟨none, .store 32 _ _, _, _, _, _⟩ :: _) _ _); refine wpList_store_row rfl 32 (.tmp 2) (.tmp 28) rfl _ z21 rfl rfl _ _ BQ3 size21 rfl (by simp [Value.oneCell']) ?_)
  refine bodyPost_ret (results_cell_row2 Tryz.results9 _ _ _ _ _ _ _ rfl (BQ3.setRow z21) Tryz.underlying32 rfl (by exact size21)) rfl ?_
  exact ⟨rfl, z3.setRow (fun h => absurd h hqn) _⟩
end Go.Proofs.YtoockogceobfgaaGreat
