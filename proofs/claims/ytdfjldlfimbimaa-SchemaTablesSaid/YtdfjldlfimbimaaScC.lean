/- schema: what an attribute is, by the document; what a class is, by both. -/
import Derived.Test.YtdfjldlfimbimaaScB
import Derived.Test.YtdfjldlfimbimaaRegA
import Derived.Deep.Cut
namespace Go.Proofs.Ytdfjldlfimbimaa
open Go.RowKit
set_option maxRecDepth 100000

set_option maxHeartbeats 8000000 in
theorem rhas_any {w : World} {S : Nat → Prop} {v : Value} {L : Tx} {s : List UInt8} (h : Ts w S v L) :
    Calls Try.prog 31 #[v, sv s] w fun e w' => e = .returned (.bool (decide (s ∈ L))) ∧ Ext w w' := by
  obtain ⟨A, c, rfl, h1, h2, h3, h4⟩ := h.open_
  go_enter Try.func31, Try.ntmps31
  go_wp2_with fail
  go_loopw [5] (fun i wr => ∃ k : Nat, k ≤ L.length ∧ i = .int .i64 k ∧ Hid (s ∉ L.take k) ∧ Ext w wr) (fun i _ => L.length - (intOf i).toNat)
  case atStart => exact ⟨0, Nat.zero_le _, rfl, Lib.hid (by simp), Mod.refl _ _⟩
  case round =>
    obtain ⟨k, hk, rfl, hs, q3⟩ := hrel
    by_cases hlt : k < L.length
    case neg =>
      have hbl : decide ((k : Int) < (L.length : Int)) = false := dfalseI (by omega)
      have hres : Hid (s ∉ L) := Lib.hid (by have := hs.out; rwa [List.take_of_length_le (by omega)] at this)
      clear hs
      go_wp2_with fail
      go_ret
      exact ⟨by rw [dfalseI hres.out]; rfl, q3⟩
    have hbl : decide ((k : Int) < (L.length : Int)) = true := dtrueI (by omega)
    obtain ⟨ad, hA, hS, c0⟩ := (Cells.mod h4 q3 (fun _ _ _ h => h)).at_ hlt
    subst hA
    have hi0 : (0 : Int) ≤ (k : Int) := by omega
    have hi1 : (k : Int) < (L.length : Int) := by omega
    cases hxy : (L[k] == s)
    case true =>
      have hres : Hid (s ∈ L) := Lib.hid (by rw [beq_iff_eq] at hxy; rw [← hxy]; exact List.getElem_mem hlt)
      clear hs
      generalize L[k] = x at *
      go_wp2_with fail
      go_ret
      exact ⟨by rw [dtrueI hres.out]; rfl, q3⟩
    have hs2 : Hid (s ∉ L.take (k + 1)) := Lib.hid (by
      rw [beq_eq_false_iff_ne] at hxy
      rw [List.take_succ_eq_append_getElem hlt, List.mem_append, List.mem_singleton]
      rintro (h | h)
      · exact hs.out h
      · exact hxy h.symm)
    clear hs
    generalize L[k] = x at *
    go_wp2_with fail
    exact ⟨⟨k + 1, by omega, by go_num, hs2, q3⟩, by simp [intOf] <;> omega⟩
def typesL : Tx := [[99, 110], [100, 99], [100, 101, 115, 99, 114, 105, 112, 116, 105, 111, 110], [100, 105, 115, 112, 108, 97, 121, 110, 97, 109, 101], [103, 105, 100, 110, 117, 109, 98, 101, 114], [108], [109, 97, 105, 108], [109, 97, 110, 97, 103, 101, 114], [109, 101, 109, 98, 101, 114], [111], [111, 98, 106, 101, 99, 116, 99, 108, 97, 115, 115], [111, 117], [115, 101, 101, 97, 108, 115, 111], [115, 110], [116, 101, 108, 101, 112, 104, 111, 110, 101, 110, 117, 109, 98, 101, 114], [116, 105, 116, 108, 101], [117, 105, 100], [117, 105, 100, 110, 117, 109, 98, 101, 114], [117, 115, 101, 114, 112, 97, 115, 115, 119, 111, 114, 100]]
theorem typesL_vals : typesL.map sv = [sv [99, 110], sv [100, 99], sv [100, 101, 115, 99, 114, 105, 112, 116, 105, 111, 110], sv [100, 105, 115, 112, 108, 97, 121, 110, 97, 109, 101], sv [103, 105, 100, 110, 117, 109, 98, 101, 114], sv [108], sv [109, 97, 105, 108], sv [109, 97, 110, 97, 103, 101, 114], sv [109, 101, 109, 98, 101, 114], sv [111], sv [111, 98, 106, 101, 99, 116, 99, 108, 97, 115, 115], sv [111, 117], sv [115, 101, 101, 97, 108, 115, 111], sv [115, 110], sv [116, 101, 108, 101, 112, 104, 111, 110, 101, 110, 117, 109, 98, 101, 114], sv [116, 105, 116, 108, 101], sv [117, 105, 100], sv [117, 105, 100, 110, 117, 109, 98, 101, 114], sv [117, 115, 101, 114, 112, 97, 115, 115, 119, 111, 114, 100]] := by kernel_rfl
set_option maxHeartbeats 8000000 in
theorem rtypes_any {w : World} : Calls Try.prog 8 #[] w fun e w' => ∃ u, e = .returned u ∧ Ts w' (fun _ => True) u typesL ∧ Ext w w' := by
  have ho := Sl.lit w 9 (typesL.map sv) (by rw [List.length_map]; decide)
  have hx : Ext w (w.alloc (.cells (typesL.map sv).toArray 9)) := (Mod.refl _ w).alloc _
  have h9 : (typesL.map sv).length = 19 := rfl
  rw [h9, typesL_vals] at ho
  rw [typesL_vals] at hx
  clear h9
  have h2 := Lib.hid (And.intro ho hx)
  clear ho hx
  go_enter Try.func8, Try.ntmps8
  go_wp2_with fail
  go_ret
  refine ⟨_, rfl, ?_, h2.out.2⟩
  show Sl _ _ _ (typesL.map sv)
  rw [typesL_vals]
  exact h2.out.1.mono (fun _ _ _ => trivial)
def synT (t : List UInt8) : Int := if t = [116, 101, 108, 101, 112, 104, 111, 110, 101, 110, 117, 109, 98, 101, 114] then 5 else if t = [117, 105, 100, 110, 117, 109, 98, 101, 114] then 2 else if t = [103, 105, 100, 110, 117, 109, 98, 101, 114] then 2 else if t = [109, 101, 109, 98, 101, 114] then 3 else if t = [109, 97, 110, 97, 103, 101, 114] then 3 else if t = [115, 101, 101, 97, 108, 115, 111] then 3 else if t = [117, 115, 101, 114, 112, 97, 115, 115, 119, 111, 114, 100] then 4 else 1
def oneT (t : List UInt8) : Bool := decide (t = [117, 105, 100, 110, 117, 109, 98, 101, 114]) || decide (t = [103, 105, 100, 110, 117, 109, 98, 101, 114]) || decide (t = [100, 105, 115, 112, 108, 97, 121, 110, 97, 109, 101])
theorem lk_types : ∀ t ∈ typesL, lk ⟨t.toArray⟩ tyD = some (.agg #[.int .i64 (synT t), .bool (oneT t)]) := by
  intro t ht
  simp only [typesL, List.mem_cons, List.not_mem_nil, or_false] at ht
  rcases ht with rfl | rfl | rfl | rfl | rfl | rfl | rfl | rfl | rfl | rfl | rfl | rfl | rfl | rfl | rfl | rfl | rfl | rfl | rfl
  all_goals kernel_rfl
theorem lk_not {t : List UInt8} : ∀ {D : List (ByteArray × Value)}, (∀ p ∈ D, t ≠ p.1.data.toList) → lk ⟨t.toArray⟩ D = none
  | [], _ => rfl
  | (k, v) :: D, h => by
    have h1 := lk_not (D := D) (fun p hp => h p (List.mem_cons_of_mem _ hp))
    have h2 := h (k, v) List.mem_cons_self
    have h3 : ((⟨t.toArray⟩ : ByteArray) == k) = false := by
      rw [ba_beq, beq_eq_false_iff_ne]
      intro e
      exact h2 (by rw [← e])
    unfold lk
    rw [if_neg (by rw [h3]; decide)]
    exact h1
theorem lk_others {t : List UInt8} (h : t ∉ typesL) : lk ⟨t.toArray⟩ tyD = none := by
  have hk : (tyD.map fun p => p.1.data.toList).all (fun x => typesL.contains x) = true := by kernel_rfl
  refine lk_not fun p hp e => h ?_
  have := List.all_eq_true.1 hk _ (List.mem_map_of_mem hp)
  rw [List.contains_iff_mem] at this
  rw [e]; exact this
theorem lk_in {t : List UInt8} {v : Value} (h : lk ⟨t.toArray⟩ tyD = some v) : t ∈ typesL ∧ v = .agg #[.int .i64 (synT t), .bool (oneT t)] := by
  by_cases ht : t ∈ typesL
  · exact ⟨ht, (by rw [lk_types t ht] at h; exact (Option.some.inj h).symm)⟩
  · rw [lk_others ht] at h; cases h
set_option maxHeartbeats 8000000 in
theorem rtype_no {w : World} {s : List UInt8} (hs : s.length ≤ 140737488351232) (h : foldB s ∉ typesL) :
    Calls Try.prog 16 #[sv s] w fun e w' => e = .returned (.tuple #[.string ⟨#[]⟩, .int .i64 0, .bool false, .bool false]) ∧ Ext w w' := by
  have hf := rfold_any (w := w) s hs
  have ht := fun wx : World => rtypes_any (w := wx)
  obtain ⟨T, hT⟩ : ∃ T, T = foldB s := ⟨_, rfl⟩
  rw [← hT] at hf h
  replace hT := Lib.hid hT
  have hd : decide (T ∈ typesL) = false := dfalseI h
  clear h
  go_enter Try.func16, Try.ntmps16
  go_wp2_with fail
  refine hf.mono ?_
  rintro e w1 ⟨rfl, x1⟩
  clear hf
  go_wp2_with fail
  refine (ht w1).mono ?_
  rintro e w2 ⟨u, rfl, o2, x2⟩
  clear ht
  have hh := rhas_any (s := T) o2
  rw [hd] at hh
  clear o2 hd
  go_wp2_with fail
  refine hh.mono ?_
  rintro e w3 ⟨rfl, x3⟩
  go_wp2_with fail
  refine bodyPost_ret (results_tmp4 rfl _ _ _) rfl ?_
  exact ⟨rfl, ext_trans x1 (ext_trans x2 x3)⟩
set_option maxHeartbeats 16000000 in
theorem rtype_yes {w : World} {s : List UInt8} (hs : s.length ≤ 140737488351232) (h : foldB s ∈ typesL) :
    Calls Try.prog 16 #[sv s] w fun e w' => e = .returned (.tuple #[sv (foldB s), .int .i64 (synT (foldB s)), .bool (oneT (foldB s)), .bool true]) ∧ Ext w w' := by
  have hf := rfold_any (w := w) s hs
  have ht := fun wx : World => rtypes_any (w := wx)
  obtain ⟨T, hT⟩ : ∃ T, T = foldB s := ⟨_, rfl⟩
  rw [← hT] at hf h ⊢
  replace hT := Lib.hid hT
  have hd : decide (T ∈ typesL) = true := dtrueI h
  obtain ⟨n, q, hn, hq, hc⟩ : ∃ n q, n = synT T ∧ q = oneT T ∧ Hid ((T = [116, 101, 108, 101, 112, 104, 111, 110, 101, 110, 117, 109, 98, 101, 114] ∧ n = 5 ∧ q = false) ∨ (T = [117, 105, 100, 110, 117, 109, 98, 101, 114] ∧ n = 2 ∧ q = true) ∨ (T = [103, 105, 100, 110, 117, 109, 98, 101, 114] ∧ n = 2 ∧ q = true) ∨ (T = [109, 101, 109, 98, 101, 114] ∧ n = 3 ∧ q = false) ∨ (T = [109, 97, 110, 97, 103, 101, 114] ∧ n = 3 ∧ q = false) ∨ (T = [115, 101, 101, 97, 108, 115, 111] ∧ n = 3 ∧ q = false) ∨ (T = [117, 115, 101, 114, 112, 97, 115, 115, 119, 111, 114, 100] ∧ n = 4 ∧ q = false) ∨ (n = 1 ∧ q = (T == [100, 105, 115, 112, 108, 97, 121, 110, 97, 109, 101]) ∧ (T == [116, 101, 108, 101, 112, 104, 111, 110, 101, 110, 117, 109, 98, 101, 114]) = false ∧ (T == [117, 105, 100, 110, 117, 109, 98, 101, 114]) = false ∧ (T == [103, 105, 100, 110, 117, 109, 98, 101, 114]) = false ∧ (T == [109, 101, 109, 98, 101, 114]) = false ∧ (T == [109, 97, 110, 97, 103, 101, 114]) = false ∧ (T == [115, 101, 101, 97, 108, 115, 111]) = false ∧ (T == [117, 115, 101, 114, 112, 97, 115, 115, 119, 111, 114, 100]) = false)) := ⟨_, _, rfl, rfl, Lib.hid (by
    simp only [typesL, List.mem_cons, List.not_mem_nil, or_false] at h
    rcases h with rfl | rfl | rfl | rfl | rfl | rfl | rfl | rfl | rfl | rfl | rfl | rfl | rfl | rfl | rfl | rfl | rfl | rfl | rfl
    all_goals decide)⟩
  rw [← hn, ← hq]
  clear h hn hq
  go_enter Try.func16, Try.ntmps16
  go_wp2_with fail
  refine hf.mono ?_
  rintro e w1 ⟨rfl, x1⟩
  clear hf
  go_wp2_with fail
  refine (ht w1).mono ?_
  rintro e w2 ⟨u, rfl, o2, x2⟩
  clear ht
  have hh := rhas_any (s := T) o2
  rw [hd] at hh
  clear o2 hd
  go_wp2_with fail
  refine hh.mono ?_
  rintro e w3 ⟨rfl, x3⟩
  rcases hc.out with ⟨rfl, rfl, rfl⟩ | ⟨rfl, rfl, rfl⟩ | ⟨rfl, rfl, rfl⟩ | ⟨rfl, rfl, rfl⟩ | ⟨rfl, rfl, rfl⟩ | ⟨rfl, rfl, rfl⟩ | ⟨rfl, rfl, rfl⟩ | ⟨rfl, rfl, e1, e2, e3, e4, e5, e6, e7⟩
  all_goals
    clear hc
    go_wp2_with fail
    refine bodyPost_ret (results_tmp4 rfl _ _ _) rfl ?_
    exact ⟨rfl, ext_trans x1 (ext_trans x2 x3)⟩
theorem cl_in (T : List UInt8) : T = [116, 111, 112] ∨ T = [112, 101, 114, 115, 111, 110] ∨ T = [111, 114, 103, 97, 110, 105, 122, 97, 116, 105, 111, 110] ∨ T = [111, 114, 103, 97, 110, 105, 122, 97, 116, 105, 111, 110, 97, 108, 117, 110, 105, 116] ∨ T = [100, 111, 109, 97, 105, 110] ∨ T = [97, 99, 99, 111, 117, 110, 116] ∨ T = [103, 114, 111, 117, 112, 111, 102, 110, 97, 109, 101, 115] ∨ (clP T = none ∧ Hid ((T == [116, 111, 112]) = false ∧ (T == [112, 101, 114, 115, 111, 110]) = false ∧ (T == [111, 114, 103, 97, 110, 105, 122, 97, 116, 105, 111, 110]) = false ∧ (T == [111, 114, 103, 97, 110, 105, 122, 97, 116, 105, 111, 110, 97, 108, 117, 110, 105, 116]) = false ∧ (T == [100, 111, 109, 97, 105, 110]) = false ∧ (T == [97, 99, 99, 111, 117, 110, 116]) = false ∧ (T == [103, 114, 111, 117, 112, 111, 102, 110, 97, 109, 101, 115]) = false)) := by
  by_cases h : T ∈ clTab.map (·.1)
  · simp only [clTab, List.map_cons, List.map_nil, List.mem_cons, List.not_mem_nil, or_false] at h
    rcases h with rfl | rfl | rfl | rfl | rfl | rfl | rfl
    all_goals simp
  · refine .inr (.inr (.inr (.inr (.inr (.inr (.inr (?_)))))))
    have hn : ∀ (C : List (List UInt8 × Tx × Tx)), T ∉ C.map (·.1) → clIn C T = none := by
      intro C
      induction C with
      | nil => exact fun _ => rfl
      | cons p C ih =>
        intro h
        unfold clIn
        rw [List.map_cons, List.mem_cons, not_or] at h
        rw [if_neg h.1]
        exact ih h.2
    refine ⟨hn _ h, Lib.hid ?_⟩
    simp only [clTab, List.map_cons, List.map_nil, List.mem_cons, List.not_mem_nil, or_false, not_or] at h
    simp only [beq_eq_false_iff_ne]
    exact h
theorem lit2 (w : World) (e : TypeId) (m y : Tx) (hm : m.length ≤ maxLen) (hy : y.length ≤ maxLen) :
    Ts ((w.alloc (.cells (m.map sv).toArray e)).alloc (.cells (y.map sv).toArray e)) AllE (.slice (some ⟨w.heap.size, 0, none⟩) m.length m.length) m ∧
    Ts ((w.alloc (.cells (m.map sv).toArray e)).alloc (.cells (y.map sv).toArray e)) AllE (.slice (some ⟨w.heap.size + 1, 0, none⟩) y.length y.length) y ∧
    Ext w ((w.alloc (.cells (m.map sv).toArray e)).alloc (.cells (y.map sv).toArray e)) := by
  have h1 := Sl.lit w e (m.map sv) (by rw [List.length_map]; exact hm)
  have h2 := Sl.lit (w.alloc (.cells (m.map sv).toArray e)) e (y.map sv) (by rw [List.length_map]; exact hy)
  rw [List.length_map] at h1 h2
  rw [show (w.alloc (.cells (m.map sv).toArray e)).heap.size = w.heap.size + 1 by simp] at h2
  exact ⟨(h1.alloc _).mono (fun _ _ _ => trivial), h2.mono (fun _ _ _ => trivial), ((Mod.refl _ w).alloc _).alloc _⟩
theorem lit1 (w : World) (e : TypeId) (m : Tx) (hm : m.length ≤ maxLen) :
    Ts (w.alloc (.cells (m.map sv).toArray e)) AllE (.slice (some ⟨w.heap.size, 0, none⟩) m.length m.length) m ∧ Ext w (w.alloc (.cells (m.map sv).toArray e)) := by
  have h1 := Sl.lit w e (m.map sv) (by rw [List.length_map]; exact hm)
  rw [List.length_map] at h1
  exact ⟨h1.mono (fun _ _ _ => trivial), (Mod.refl _ w).alloc _⟩
/-- What a class is, as both answer it. -/
def ClR (o : Option (Tx × Tx)) (e : Ending) (w' : World) : Prop := match o with
  | none => e = .returned (.tuple #[.slice none 0 0, .slice none 0 0, .bool false])
  | some c => ∃ x y, e = .returned (.tuple #[x, y, .bool true]) ∧ Ts w' AllE x c.1 ∧ Ts w' AllE y c.2
set_option maxHeartbeats 16000000 in
theorem rclass_any {w : World} {s : List UInt8} (hs : s.length ≤ 140737488351232) :
    Calls Try.prog 15 #[sv s] w fun e w' => ClR (clP (foldB s)) e w' ∧ Ext w w' := by
  have hf := rfold_any (w := w) s hs
  obtain ⟨T, hT⟩ : ∃ T, T = foldB s := ⟨_, rfl⟩
  rw [← hT] at hf ⊢
  replace hT := Lib.hid hT
  have hc := Lib.hid (cl_in T)
  go_enter Try.func15, Try.ntmps15
  go_wp2_with fail
  refine hf.mono ?_
  rintro e w1 ⟨rfl, x1⟩
  clear hf
  rcases hc.out with rfl | rfl | rfl | rfl | rfl | rfl | rfl | ⟨hn, hq⟩
  · clear hc
    go_wp2_with fail
    go_ret3
    obtain ⟨t1, t3⟩ := lit1 w1 9 [[111, 98, 106, 101, 99, 116, 99, 108, 97, 115, 115]] (by decide)
    exact ⟨⟨_, _, rfl, t1, Sl.nil _ _⟩, ext_trans x1 t3⟩
  · clear hc
    go_wp2_with fail
    go_ret3
    obtain ⟨t1, t2, t3⟩ := lit2 w1 9 [[99, 110], [115, 110]] [[117, 115, 101, 114, 112, 97, 115, 115, 119, 111, 114, 100], [116, 101, 108, 101, 112, 104, 111, 110, 101, 110, 117, 109, 98, 101, 114], [100, 101, 115, 99, 114, 105, 112, 116, 105, 111, 110], [116, 105, 116, 108, 101], [109, 97, 105, 108], [109, 97, 110, 97, 103, 101, 114], [100, 105, 115, 112, 108, 97, 121, 110, 97, 109, 101], [115, 101, 101, 97, 108, 115, 111], [108], [117, 105, 100], [117, 105, 100, 110, 117, 109, 98, 101, 114], [103, 105, 100, 110, 117, 109, 98, 101, 114], [111, 117]] (by decide) (by decide)
    exact ⟨⟨_, _, rfl, t1, t2⟩, ext_trans x1 t3⟩
  · clear hc
    go_wp2_with fail
    go_ret3
    obtain ⟨t1, t2, t3⟩ := lit2 w1 9 [[111]] [[100, 101, 115, 99, 114, 105, 112, 116, 105, 111, 110], [108], [116, 101, 108, 101, 112, 104, 111, 110, 101, 110, 117, 109, 98, 101, 114], [117, 115, 101, 114, 112, 97, 115, 115, 119, 111, 114, 100], [115, 101, 101, 97, 108, 115, 111]] (by decide) (by decide)
    exact ⟨⟨_, _, rfl, t1, t2⟩, ext_trans x1 t3⟩
  · clear hc
    go_wp2_with fail
    go_ret3
    obtain ⟨t1, t2, t3⟩ := lit2 w1 9 [[111, 117]] [[100, 101, 115, 99, 114, 105, 112, 116, 105, 111, 110], [108], [116, 101, 108, 101, 112, 104, 111, 110, 101, 110, 117, 109, 98, 101, 114], [117, 115, 101, 114, 112, 97, 115, 115, 119, 111, 114, 100], [115, 101, 101, 97, 108, 115, 111], [109, 97, 110, 97, 103, 101, 114]] (by decide) (by decide)
    exact ⟨⟨_, _, rfl, t1, t2⟩, ext_trans x1 t3⟩
  · clear hc
    go_wp2_with fail
    go_ret3
    obtain ⟨t1, t2, t3⟩ := lit2 w1 9 [[100, 99]] [[100, 101, 115, 99, 114, 105, 112, 116, 105, 111, 110], [111], [108]] (by decide) (by decide)
    exact ⟨⟨_, _, rfl, t1, t2⟩, ext_trans x1 t3⟩
  · clear hc
    go_wp2_with fail
    go_ret3
    obtain ⟨t1, t2, t3⟩ := lit2 w1 9 [[117, 105, 100]] [[100, 101, 115, 99, 114, 105, 112, 116, 105, 111, 110], [108], [111], [111, 117], [117, 115, 101, 114, 112, 97, 115, 115, 119, 111, 114, 100], [117, 105, 100, 110, 117, 109, 98, 101, 114], [103, 105, 100, 110, 117, 109, 98, 101, 114]] (by decide) (by decide)
    exact ⟨⟨_, _, rfl, t1, t2⟩, ext_trans x1 t3⟩
  · clear hc
    go_wp2_with fail
    go_ret3
    obtain ⟨t1, t2, t3⟩ := lit2 w1 9 [[99, 110], [109, 101, 109, 98, 101, 114]] [[100, 101, 115, 99, 114, 105, 112, 116, 105, 111, 110], [111], [111, 117], [115, 101, 101, 97, 108, 115, 111]] (by decide) (by decide)
    exact ⟨⟨_, _, rfl, t1, t2⟩, ext_trans x1 t3⟩
  · obtain ⟨e0, e1, e2, e3, e4, e5, e6⟩ := hq.out
    clear hc hq
    go_wp2_with fail
    go_ret3
    rw [hn]
    exact ⟨rfl, x1⟩
theorem kindZ (w : World) : (zeroValue 64).run Try.prog w = .ok (.agg #[.slice none 0 0, .slice none 0 0]) w := by kernel_rfl
set_option maxHeartbeats 8000000 in
theorem class_any {w : World} {s : List UInt8} (hs : s.length ≤ 140737488351232) :
    Calls Try.prog 21 #[sv s] w fun e w' => ClR (clP (foldB s)) e w' ∧ Ext w w' := by
  have hf := fun wx : World => fold_any (w := wx) s hs
  have ht := classes_any (w := w)
  obtain ⟨T, hT⟩ : ∃ T, T = foldB s := ⟨_, rfl⟩
  rw [← hT] at hf ⊢
  replace hT := Lib.hid hT
  go_enter Try.func21, Try.ntmps21
  go_wp2_with fail
  refine ht.mono ?_
  rintro e w1 ⟨b, rfl, hM, hb, x1⟩
  clear ht
  go_wp2_with fail
  refine (hf w1).mono ?_
  rintro e w2 ⟨rfl, x2⟩
  clear hf
  have hM2 := hM.ext x2
  cases hc : clP T with
  | none =>
    obtain ⟨D, d1, d2⟩ := hM2.no hc
    clear hM hM2
    replace hc := Lib.hid hc
    go_wp2_with ((with_reducible show wpList _ _ _ (⟨_, Op.lookup _ _ _ _, _, _, _, _⟩ :: _) _ _); refine wp_look d1 Try.underlying66 Try.underlying9 kindZ rfl _ _ rfl rfl rfl ?_; rw [d2]; simp only [Option.getD, Option.isSome])
    go_quiet (fail)
    go_wp2_with fail
    go_ret3
    rw [hc.out]
    exact ⟨rfl, ((ext_trans x1 x2).alloc _).drewN _⟩
  | some c =>
    obtain ⟨D, vx, vy, d1, d2, t1, t2⟩ := hM2.yes hc
    obtain ⟨Ax, cx, rfl, -⟩ := Sl.open_ t1
    obtain ⟨Ay, cy, rfl, -⟩ := Sl.open_ t2
    clear hM hM2
    replace hc := Lib.hid hc
    go_wp2_with ((with_reducible show wpList _ _ _ (⟨_, Op.lookup _ _ _ _, _, _, _, _⟩ :: _) _ _); refine wp_look d1 Try.underlying66 Try.underlying9 kindZ rfl _ _ rfl rfl rfl ?_; rw [d2]; simp only [Option.getD, Option.isSome])
    go_quiet (fail)
    go_wp2_with fail
    go_ret3
    rw [hc.out]
    exact ⟨⟨_, _, rfl, ((t1.alloc _).drewN _), ((t2.alloc _).drewN _)⟩, ((ext_trans x1 x2).alloc _).drewN _⟩
end Go.Proofs.Ytdfjldlfimbimaa
