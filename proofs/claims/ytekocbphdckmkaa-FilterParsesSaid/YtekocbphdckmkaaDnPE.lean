/- dn: the reader: end, is, blanks; digit; IndexByte. -/
import Derived.Test.YtekocbphdckmkaaDnC
import Derived.Lib.Bytealg
import Derived.Deep.RegionHeld3
import Derived.Deep.QuietTactic
import Derived.BigQuiet
import Derived.Test.YtekocbphdckmkaaRecB
import Derived.Laws.ResultCell
namespace Go.Proofs.Ytekocbphdckmkaa
open Go.RowKit
set_option maxRecDepth 100000

theorem slite_any {w : World} (l : List UInt8) (b : UInt8) :
    Calls Try.prog 58 #[sv l, .int .u8 (b.toNat : Int)] w fun e w' => e = .returned (.int .i64 (Lib.indexByte l b)) ∧ w' = w := by
  have hb : (b.toNat : Int).toNat.toUInt8 = b := by rw [Int.toNat_natCast]; exact UInt8.ofNat_toNat
  go_enter Try.func58, Try.ntmps58
  go_wp2_with fail
  rw [run_callFunc_extern Try.func64 (by kernel_rfl) (by kernel_rfl) (by kernel_rfl) (e := Extern.BytealgIndexByte.indexByte) (by kernel_rfl), Lib.run_indexByteString, hb]
  simp only [Result.andThen]
  rw [Oper.upon_value]
  go_wp2_with fail
  go_ret
  exact ⟨rfl, rfl⟩
theorem sidx_any {w : World} (l : List UInt8) (b : UInt8) :
    Calls Try.prog 48 #[sv l, .int .u8 (b.toNat : Int)] w fun e w' => e = .returned (.int .i64 (Lib.indexByte l b)) ∧ w' = w := by
  go_enter Try.func48, Try.ntmps48
  go_wp2_with fail
  refine (slite_any l b).mono ?_
  rintro e w1 ⟨rfl, hw⟩
  rw [hw]
  go_wp2_with fail
  go_ret
  exact ⟨rfl, rfl⟩
theorem idx_mem (l : List UInt8) (b : UInt8) : decide ((0 : Int) ≤ Lib.indexByte l b) = decide (b ∈ l) := by
  apply decide_eq_decide.2
  induction l with
  | nil => simp [Lib.indexByte]
  | cons a l ih =>
    have hge := Lib.indexByte_ge l b
    unfold Lib.indexByte
    by_cases h : a = b
    · simp [h]
    · rw [if_neg (by simpa using h)]
      by_cases h2 : Lib.indexByte l b = -1
      · rw [if_pos (by simpa using h2)]
        rw [h2] at ih
        simp only [List.mem_cons]
        constructor
        · intro h3; omega
        · rintro (h3 | h3)
          · exact absurd h3.symm h
          · have := ih.2 h3; omega
      · rw [if_neg (by simpa using h2)]
        simp only [List.mem_cons]
        constructor
        · intro _; exact .inr (ih.1 (by omega))
        · rintro (h3 | h3)
          · exact absurd h3.symm h
          · have := ih.2 h3; omega

/-- A digit of sixteen. -/
def digB (b : UInt8) : Option UInt8 := if 48 ≤ b.toNat ∧ b.toNat ≤ 57 then some (b - 48) else if 97 ≤ b.toNat ∧ b.toNat ≤ 102 then some (b - 97 + 10) else if 65 ≤ b.toNat ∧ b.toNat ≤ 70 then some (b - 65 + 10) else none
theorem digit_any {w : World} (b : UInt8) :
    Calls Try.prog 68 #[.int .u8 (b.toNat : Int)] w fun e w' => e = .returned (.tuple #[.int .u8 ((digB b).getD 0).toNat, .bool (digB b).isSome]) ∧ w' = w := by
  have h8 := b.toNat_lt
  unfold digB
  by_cases h1 : 48 ≤ b.toNat ∧ b.toNat ≤ 57
  · rw [if_pos h1]
    have a1 : (48 : Int) ≤ (b.toNat : Int) := by omega
    have a2 : (b.toNat : Int) ≤ 57 := by omega
    have hv : ((b - 48).toNat : Int) = (b.toNat : Int) - 48 := by rw [UInt8.toNat_sub, show (48 : UInt8).toNat = 48 from rfl]; omega
    simp only [Option.getD_some, Option.isSome_some]
    rw [hv]
    go_enter Try.func68, Try.ntmps68
    go_wp2_with fail
    go_ret2
    exact ⟨rfl, rfl⟩
  rw [if_neg h1]
  by_cases h2 : 97 ≤ b.toNat ∧ b.toNat ≤ 102
  · rw [if_pos h2]
    have a1 : (97 : Int) ≤ (b.toNat : Int) := by omega
    have a2 : (b.toNat : Int) ≤ 102 := by omega
    have hv : ((b - 97 + 10).toNat : Int) = (b.toNat : Int) - 97 + 10 := by
      rw [UInt8.toNat_add, UInt8.toNat_sub, show (97 : UInt8).toNat = 97 from rfl, show (10 : UInt8).toNat = 10 from rfl]; omega
    simp only [Option.getD_some, Option.isSome_some]
    rw [hv]
    go_enter Try.func68, Try.ntmps68
    go_wp2_with fail
    go_ret2
    exact ⟨rfl, rfl⟩
  rw [if_neg h2]
  by_cases h3 : 65 ≤ b.toNat ∧ b.toNat ≤ 70
  · rw [if_pos h3]
    have a1 : (65 : Int) ≤ (b.toNat : Int) := by omega
    have a2 : (b.toNat : Int) ≤ 70 := by omega
    have hv : ((b - 65 + 10).toNat : Int) = (b.toNat : Int) - 65 + 10 := by
      rw [UInt8.toNat_add, UInt8.toNat_sub, show (65 : UInt8).toNat = 65 from rfl, show (10 : UInt8).toNat = 10 from rfl]; omega
    simp only [Option.getD_some, Option.isSome_some]
    rw [hv]
    go_enter Try.func68, Try.ntmps68
    go_wp2_with fail
    go_ret2
    exact ⟨rfl, rfl⟩
  rw [if_neg h3]
  simp only [Option.getD_none, Option.isSome_none]
  have k1 : (decide ((48 : Int) ≤ (b.toNat : Int)) && decide ((b.toNat : Int) ≤ 57)) = false := by rw [Bool.and_eq_false_iff, decide_eq_false_iff_not, decide_eq_false_iff_not]; omega
  have k2 : (decide ((97 : Int) ≤ (b.toNat : Int)) && decide ((b.toNat : Int) ≤ 102)) = false := by rw [Bool.and_eq_false_iff, decide_eq_false_iff_not, decide_eq_false_iff_not]; omega
  have k3 : (decide ((65 : Int) ≤ (b.toNat : Int)) && decide ((b.toNat : Int) ≤ 70)) = false := by rw [Bool.and_eq_false_iff, decide_eq_false_iff_not, decide_eq_false_iff_not]; omega
  go_enter Try.func68, Try.ntmps68
  go_wp2_with fail
  all_goals first
    | (exfalso; omega)
    | (go_ret2; exact ⟨rfl, rfl⟩)

/-- A reader of the text s stands at k. -/
def Rd (w : World) (g : Nat) (s : List UInt8) (k : Nat) : Prop := Blk w g 41 #[sv s, .int .i64 k]
theorem Rd.c {w : World} {g : Nat} {s : List UInt8} {k : Nat} (h : Rd w g s k) : w.cell? ⟨g, 0, none⟩ = some (sv s) ∧ w.cell? ⟨g, 1, none⟩ = some (.int .i64 k) := ⟨Blk.cell h 0, Blk.cell h 1⟩
theorem Rd.mod {w w' : World} {g : Nat} {s : List UInt8} {k : Nat} {F : Nat → Prop} (h : Rd w g s k) (hm : Mod F w w') (hg : ¬ F g) : Rd w' g s k := Blk.mod h hm hg
theorem Rd.step {w : World} {g : Nat} {s : List UInt8} {k : Nat} (h : Rd w g s k) : Rd (w.setCell ⟨g, 1, none⟩ (.int .i64 ((k : Int) + 1))) g s (k + 1) := Blk.set_ h 1 _
theorem step_mod {w : World} {g : Nat} (u : Value) : Mod (fun b => b = g) w (w.setCell ⟨g, 1, none⟩ u) := (Mod.refl (fun b => b = g) w).setCell (p := ⟨g, 1, none⟩) (fun _ => rfl) u

theorem Rd.drewN {w : World} {g : Nat} {s : List UInt8} {k : Nat} (h : Rd w g s k) (n : Nat) : Rd (w.drewN n) g s k := h.mod ((Mod.refl (fun _ => False) w).drewN n) (fun h => h)
end Go.Proofs.Ytekocbphdckmkaa
namespace Go.Proofs.Ytekocbphdckmkaa
open Go.RowKit
set_option maxRecDepth 100000

/-- What stands behind blanks. -/
def skipB : List UInt8 → List UInt8
  | [] => []
  | b :: l => if b = 32 then skipB l else b :: l
/-- How far a reader has come. -/
def rdAt (w : World) (g : Nat) : Nat := (intOf ((w.cell? ⟨g, 1, none⟩).getD undef)).toNat
theorem Rd.at_ {w : World} {g : Nat} {s : List UInt8} {k : Nat} (h : Rd w g s k) : rdAt w g = k := by
  unfold rdAt
  rw [h.c.2]
  simp [intOf]

end Go.Proofs.Ytekocbphdckmkaa
namespace Go.Proofs.Ytekocbphdckmkaa
open Go.RowKit
set_option maxRecDepth 100000

/-- What may stand behind a stroke. -/
def mayB : List UInt8 := [44, 43, 34, 92, 60, 62, 59, 35, 61, 32]
/-- What stands behind a stroke, and what is left. -/
def escR : List UInt8 → Option (UInt8 × List UInt8)
  | [] => none
  | c :: l => if c ∈ mayB then some (c, l) else (digB c).bind fun x => l.head?.bind fun d => (digB d).map fun y => (x <<< 4 ||| y, l.tail)
theorem ext_mod {F : Nat → Prop} {a b : World} (h : Ext a b) : Mod F a b := h.mono (fun _ _ h => h.elim)
theorem digB_lt {b x : UInt8} (h : digB b = some x) : x.toNat < 16 := by
  have h8 := b.toNat_lt
  unfold digB at h
  split at h
  · rename_i h1; cases h; rw [UInt8.toNat_sub, show (48 : UInt8).toNat = 48 from rfl]; omega
  · split at h
    · cases h; rw [UInt8.toNat_add, UInt8.toNat_sub, show (97 : UInt8).toNat = 97 from rfl, show (10 : UInt8).toNat = 10 from rfl]; omega
    · split at h
      · cases h; rw [UInt8.toNat_add, UInt8.toNat_sub, show (65 : UInt8).toNat = 65 from rfl, show (10 : UInt8).toNat = 10 from rfl]; omega
      · cases h
theorem hilo_eq (x y : UInt8) (hx : x.toNat < 16) (hy : y.toNat < 16) : ((x <<< 4 ||| y).toNat : Int) = (x.toNat : Int) * 16 + (y.toNat : Int) := by
  have e : (x <<< 4 ||| y).toNat = x.toNat * 16 + y.toNat := by
    have h := fun (a b : Fin 16) => (show ((UInt8.ofNat a.1) <<< 4 ||| UInt8.ofNat b.1).toNat = a.1 * 16 + b.1 from by revert a b; decide)
    have h1 := h ⟨x.toNat, hx⟩ ⟨y.toNat, hy⟩
    simpa using h1
  omega

theorem bits_eq (x y : UInt8) (hx : x.toNat < 16) (hy : y.toNat < 16) : bits BinOp.or IntKind.u8 ((x.toNat : Int) * 16) (y.toNat : Int) = ((x <<< 4 ||| y).toNat : Int) := by
  rw [hilo_eq x y hx hy]
  have h := fun (a b : Fin 16) => (show bits BinOp.or IntKind.u8 ((a.1 : Int) * 16) (b.1 : Int) = (a.1 : Int) * 16 + (b.1 : Int) from by revert a b; decide)
  exact h ⟨x.toNat, hx⟩ ⟨y.toNat, hy⟩

end Go.Proofs.Ytekocbphdckmkaa
namespace Go.Proofs.Ytekocbphdckmkaa
open Go.RowKit
set_option maxRecDepth 100000

/-- What doesn't stand by itself in a value. -/
def sepB : List UInt8 := [44, 43, 34, 92, 60, 62, 59]
def valF : Nat → List UInt8 → List UInt8 → Nat → Option (List UInt8 × List UInt8)
  | 0, _, _, _ => none
  | _ + 1, [], out, n => some (out.take n, [])
  | f + 1, b :: l, out, n =>
    if b = 44 then some (out.take n, b :: l)
    else if b = 92 then (escR l).bind fun p => valF f p.2 (out ++ [p.1]) (out.length + 1)
    else if b ∈ sepB then none
    else valF f l (out ++ [b]) (if b = 32 then n else out.length + 1)
/-- A value with the blanks around it, and what is left. -/
def valueB (l : List UInt8) : Option (List UInt8 × List UInt8) := valF ((skipB l).length + 1) (skipB l) [] 0

theorem own_rd {w : World} {g : Nat} {s : List UInt8} {k : Nat} {v : Value} {B : Nat} (_h : Rd w g s k) (hg : g < B) (hv : Fresh B v) : ¬ own v g := fun hh => by have := hv g hh; omega

theorem own_shape1 {w : World} {e : TypeId} {v : Value} {l : List UInt8} {b : UInt8} (h : Own w e v ((l ++ [b]).map bv)) : ∃ A c, v = .slice A (l.length + 1) c := by
  obtain ⟨A, c, h⟩ := h.shape
  exact ⟨A, c, by rw [h]; simp⟩

end Go.Proofs.Ytekocbphdckmkaa
namespace Go.Proofs.Ytekocbphdckmkaa
open Go.RowKit
set_option maxRecDepth 100000

def typP (b : UInt8) : Bool := decide (typN b.toNat)
/-- A type and a value, and what is left. -/
def partR (l : List UInt8) : Option ((List UInt8 × List UInt8) × List UInt8) :=
  if isTyp ((skipB l).takeWhile typP) then
    match skipB ((skipB l).dropWhile typP) with
    | 61 :: l3 => (valueB l3).bind fun p => if p.1 = [] then none else some (((skipB l).takeWhile typP, p.1), p.2)
    | _ => none
  else none
def Tk (s : List UInt8) (a j : Nat) : Prop := (s.drop a).takeWhile typP = (s.drop a).take (j - a) ++ (s.drop j).takeWhile typP ∧ (s.drop a).dropWhile typP = (s.drop j).dropWhile typP
theorem Tk.start (s : List UInt8) (a : Nat) : Tk s a a := ⟨by simp, rfl⟩
theorem Tk.next {s : List UInt8} {a j : Nat} (h : Tk s a j) (ha : a ≤ j) (hj : j < s.length) (hp : typP s[j] = true) : Tk s a (j + 1) := by
  obtain ⟨h1, h2⟩ := h
  have hd := List.drop_eq_getElem_cons hj
  refine ⟨?_, ?_⟩
  · rw [h1, hd, List.takeWhile_cons, if_pos hp]
    have ht : (s.drop a).take (j + 1 - a) = (s.drop a).take (j - a) ++ [s[j]] := by
      rw [show j + 1 - a = (j - a) + 1 by omega, List.take_succ_eq_append_getElem (by rw [List.length_drop]; omega), List.getElem_drop]
      congr 2
      congr 1
      omega
    rw [ht, List.append_assoc]
    rfl
  · rw [h2, hd, List.dropWhile_cons, if_pos hp]
theorem Tk.stop {s : List UInt8} {a j : Nat} (h : Tk s a j) (hp : ∀ h : j < s.length, typP s[j] = false) : (s.drop a).takeWhile typP = (s.drop a).take (j - a) ∧ (s.drop a).dropWhile typP = s.drop j := by
  obtain ⟨h1, h2⟩ := h
  by_cases hj : j < s.length
  · have hd := List.drop_eq_getElem_cons hj
    have := hp hj
    constructor
    · rw [h1, hd, List.takeWhile_cons, if_neg (by rw [this]; decide), List.append_nil]
    · rw [h2, hd, List.dropWhile_cons, if_neg (by rw [this]; decide)]
  · have hd : s.drop j = [] := List.drop_of_length_le (by omega)
    constructor
    · rw [h1, hd, List.takeWhile_nil, List.append_nil]
    · rw [h2, hd, List.dropWhile_nil]

theorem ext_sv (s : List UInt8) (a j : Nat) : (⟨s.toArray⟩ : ByteArray).extract a j = ⟨((s.drop a).take (j - a)).toArray⟩ := by
  apply ByteArray.ext
  simp [ByteArray.data_extract]
theorem results_cell_row2 {P : Program} {fn : Func} {p u : Tmp} {ty : TypeId} (h : fn.results = #[.cell p ty, .tmp u]) (tmps : Array Value) (w : World) (g : Nat) (t : TypeId) (cs : Array Value) (fr : Nat × Nat) (d : TypeDesc)
    (hp : tmps.getD p undef = .pointer (some ⟨g, 0, none⟩)) (hg : w.heap[g]? = some (.cells cs t fr))
    (hu : P.underlying ty = some d) (hd : (match d with | .struct _ | .array _ _ => true | _ => false) = true) (hi : (P.info? ty).map (·.size) = some cs.size) :
    (results fn tmps).run P w = .ok (.tuple #[.agg cs, tmps.getD u undef]) w := by
  have hp' : tmps[p]?.getD undef = .pointer (some ⟨g, 0, none⟩) := by simpa using hp
  rw [results_cell_tmp h]
  simp [hp', asAddr, Result.andThen, run_loadVar_row w g t ty cs fr d hg hu hd hi]

end Go.Proofs.Ytekocbphdckmkaa
