/- schema: what an attribute is, by the document. -/
import Derived.Test.YtacmbomnjedbeaaEvD
import Derived.Test.YtacmbomnjedbeaaIxC
import Derived.Test.YtacmbomnjedbeaaIxS
import Derived.Test.YtacmbomnjedbeaaDnI
import Derived.Test.YtacmbomnjedbeaaDnPN
import Derived.Test.YtacmbomnjedbeaaRegA
import Derived.Deep.Cut
import Derived.Test.YtacmbomnjedbeaaIkE
import Derived.Test.YtacmbomnjedbeaaMtH
namespace Go.Proofs.Ytacmbomnjedbeaa
open Go.RowKit
set_option maxRecDepth 100000

set_option maxHeartbeats 8000000 in
theorem rhas_any {w : World} {S : Nat → Prop} {v : Value} {L : Tx} {s : List UInt8} (h : Ts w S v L) :
    Calls Try.prog 33 #[v, sv s] w fun e w' => e = .returned (.bool (decide (s ∈ L))) ∧ Ext w w' := by
  obtain ⟨A, c, rfl, h1, h2, h3, h4⟩ := h.open_
  go_enter Try.func33, Try.ntmps33
  go_wp2_with fail
  go_loopw [5] (fun i wr => ∃ k : Nat, k ≤ L.length ∧ i = .int .i64 k ∧ Hid (s ∉ L.take k) ∧ Ext w wr) (fun i _ => L.length - (intOf i).toNat)
  case atStart => exact ⟨0, Nat.zero_le _, rfl, Lib.hid (by simp), Mod.refl _ _⟩
  case round =>
    obtain ⟨k, hk, rfl, hs, q3⟩ := hrel
    by_cases hlt : k < L.length
    case neg =>
      have hbl : decide ((k : Int) < (L.length : Int)) = false := dfalseI (by omega)
      have hres : Hid (s ∉ L) := Lib.hid (by have := hs.out; rwa [List.take_of_length_le (by omega)] at this)
      clear hs
      go_wp2_with fail
      go_ret
      exact ⟨by rw [dfalseI hres.out]; rfl, q3⟩
    have hbl : decide ((k : Int) < (L.length : Int)) = true := dtrueI (by omega)
    obtain ⟨ad, hA, hS, c0⟩ := (Cells.mod h4 q3 (fun _ _ _ h => h)).at_ hlt
    subst hA
    have hi0 : (0 : Int) ≤ (k : Int) := by omega
    have hi1 : (k : Int) < (L.length : Int) := by omega
    cases hxy : (L[k] == s)
    case true =>
      have hres : Hid (s ∈ L) := Lib.hid (by rw [beq_iff_eq] at hxy; rw [← hxy]; exact List.getElem_mem hlt)
      clear hs
      generalize L[k] = x at *
      go_wp2_with fail
      go_ret
      exact ⟨by rw [dtrueI hres.out]; rfl, q3⟩
    have hs2 : Hid (s ∉ L.take (k + 1)) := Lib.hid (by
      rw [beq_eq_false_iff_ne] at hxy
      rw [List.take_succ_eq_append_getElem hlt, List.mem_append, List.mem_singleton]
      rintro (h | h)
      · exact hs.out h
      · exact hxy h.symm)
    clear hs
    generalize L[k] = x at *
    go_wp2_with fail
    exact ⟨⟨k + 1, by omega, by go_num, hs2, q3⟩, by simp [intOf] <;> omega⟩
def typesL : Tx := [[99, 110], [100, 99], [100, 101, 115, 99, 114, 105, 112, 116, 105, 111, 110], [100, 105, 115, 112, 108, 97, 121, 110, 97, 109, 101], [103, 105, 100, 110, 117, 109, 98, 101, 114], [108], [109, 97, 105, 108], [109, 97, 110, 97, 103, 101, 114], [109, 101, 109, 98, 101, 114], [111], [111, 98, 106, 101, 99, 116, 99, 108, 97, 115, 115], [111, 117], [115, 101, 101, 97, 108, 115, 111], [115, 110], [116, 101, 108, 101, 112, 104, 111, 110, 101, 110, 117, 109, 98, 101, 114], [116, 105, 116, 108, 101], [117, 105, 100], [117, 105, 100, 110, 117, 109, 98, 101, 114], [117, 115, 101, 114, 112, 97, 115, 115, 119, 111, 114, 100]]
theorem typesL_vals : typesL.map sv = [sv [99, 110], sv [100, 99], sv [100, 101, 115, 99, 114, 105, 112, 116, 105, 111, 110], sv [100, 105, 115, 112, 108, 97, 121, 110, 97, 109, 101], sv [103, 105, 100, 110, 117, 109, 98, 101, 114], sv [108], sv [109, 97, 105, 108], sv [109, 97, 110, 97, 103, 101, 114], sv [109, 101, 109, 98, 101, 114], sv [111], sv [111, 98, 106, 101, 99, 116, 99, 108, 97, 115, 115], sv [111, 117], sv [115, 101, 101, 97, 108, 115, 111], sv [115, 110], sv [116, 101, 108, 101, 112, 104, 111, 110, 101, 110, 117, 109, 98, 101, 114], sv [116, 105, 116, 108, 101], sv [117, 105, 100], sv [117, 105, 100, 110, 117, 109, 98, 101, 114], sv [117, 115, 101, 114, 112, 97, 115, 115, 119, 111, 114, 100]] := by kernel_rfl
set_option maxHeartbeats 8000000 in
theorem rtypes_any {w : World} : Calls Try.prog 34 #[] w fun e w' => ∃ u, e = .returned u ∧ Ts w' (fun _ => True) u typesL ∧ Ext w w' := by
  have ho := Sl.lit w 9 (typesL.map sv) (by rw [List.length_map]; decide)
  have hx : Ext w (w.alloc (.cells (typesL.map sv).toArray 9)) := (Mod.refl _ w).alloc _
  have h9 : (typesL.map sv).length = 19 := rfl
  rw [h9, typesL_vals] at ho
  rw [typesL_vals] at hx
  clear h9
  have h2 := Lib.hid (And.intro ho hx)
  clear ho hx
  go_enter Try.func34, Try.ntmps34
  go_wp2_with fail
  go_ret
  refine ⟨_, rfl, ?_, h2.out.2⟩
  show Sl _ _ _ (typesL.map sv)
  rw [typesL_vals]
  exact h2.out.1.mono (fun _ _ _ => trivial)
def synT (t : List UInt8) : Int := if t = [116, 101, 108, 101, 112, 104, 111, 110, 101, 110, 117, 109, 98, 101, 114] then 5 else if t = [117, 105, 100, 110, 117, 109, 98, 101, 114] then 2 else if t = [103, 105, 100, 110, 117, 109, 98, 101, 114] then 2 else if t = [109, 101, 109, 98, 101, 114] then 3 else if t = [109, 97, 110, 97, 103, 101, 114] then 3 else if t = [115, 101, 101, 97, 108, 115, 111] then 3 else if t = [117, 115, 101, 114, 112, 97, 115, 115, 119, 111, 114, 100] then 4 else 1
def oneT (t : List UInt8) : Bool := decide (t = [117, 105, 100, 110, 117, 109, 98, 101, 114]) || decide (t = [103, 105, 100, 110, 117, 109, 98, 101, 114]) || decide (t = [100, 105, 115, 112, 108, 97, 121, 110, 97, 109, 101])
theorem lk_types : ∀ t ∈ typesL, lk ⟨t.toArray⟩ tyD = some (.agg #[.int .i64 (synT t), .bool (oneT t)]) := by
  intro t ht
  simp only [typesL, List.mem_cons, List.not_mem_nil, or_false] at ht
  rcases ht with rfl | rfl | rfl | rfl | rfl | rfl | rfl | rfl | rfl | rfl | rfl | rfl | rfl | rfl | rfl | rfl | rfl | rfl | rfl
  all_goals kernel_rfl
theorem ba_beq (a b : ByteArray) : (a == b) = (a.data == b.data) := by
  show ByteArray.beq a b = _
  unfold ByteArray.beq
  rfl
theorem lk_not {t : List UInt8} : ∀ {D : List (ByteArray × Value)}, (∀ p ∈ D, t ≠ p.1.data.toList) → lk ⟨t.toArray⟩ D = none
  | [], _ => rfl
  | (k, v) :: D, h => by
    have h1 := lk_not (D := D) (fun p hp => h p (List.mem_cons_of_mem _ hp))
    have h2 := h (k, v) List.mem_cons_self
    have h3 : ((⟨t.toArray⟩ : ByteArray) == k) = false := by
      rw [ba_beq, beq_eq_false_iff_ne]
      intro e
      exact h2 (by rw [← e])
    unfold lk
    rw [if_neg (by rw [h3]; decide)]
    exact h1
theorem lk_others {t : List UInt8} (h : t ∉ typesL) : lk ⟨t.toArray⟩ tyD = none := by
  have hk : (tyD.map fun p => p.1.data.toList).all (fun x => typesL.contains x) = true := by kernel_rfl
  refine lk_not fun p hp e => h ?_
  have := List.all_eq_true.1 hk _ (List.mem_map_of_mem hp)
  rw [List.contains_iff_mem] at this
  rw [e]; exact this
theorem lk_in {t : List UInt8} {v : Value} (h : lk ⟨t.toArray⟩ tyD = some v) : t ∈ typesL ∧ v = .agg #[.int .i64 (synT t), .bool (oneT t)] := by
  by_cases ht : t ∈ typesL
  · exact ⟨ht, (by rw [lk_types t ht] at h; exact (Option.some.inj h).symm)⟩
  · rw [lk_others ht] at h; cases h
set_option maxHeartbeats 8000000 in
theorem rtype_no {w : World} {s : List UInt8} (hs : s.length ≤ 140737488351232) (h : foldB s ∉ typesL) :
    Calls Try.prog 13 #[sv s] w fun e w' => e = .returned (.tuple #[.string ⟨#[]⟩, .int .i64 0, .bool false, .bool false]) ∧ Ext w w' := by
  have hf := rfold_any (w := w) s hs
  have ht := fun wx : World => rtypes_any (w := wx)
  obtain ⟨T, hT⟩ : ∃ T, T = foldB s := ⟨_, rfl⟩
  rw [← hT] at hf h
  replace hT := Lib.hid hT
  have hd : decide (T ∈ typesL) = false := dfalseI h
  clear h
  go_enter Try.func13, Try.ntmps13
  go_wp2_with fail
  refine hf.mono ?_
  rintro e w1 ⟨rfl, x1⟩
  clear hf
  go_wp2_with fail
  refine (ht w1).mono ?_
  rintro e w2 ⟨u, rfl, o2, x2⟩
  clear ht
  have hh := rhas_any (s := T) o2
  rw [hd] at hh
  clear o2 hd
  go_wp2_with fail
  refine hh.mono ?_
  rintro e w3 ⟨rfl, x3⟩
  go_wp2_with fail
  refine bodyPost_ret (results_tmp4 rfl _ _ _) rfl ?_
  exact ⟨rfl, ext_trans x1 (ext_trans x2 x3)⟩
set_option maxHeartbeats 16000000 in
theorem rtype_yes {w : World} {s : List UInt8} (hs : s.length ≤ 140737488351232) (h : foldB s ∈ typesL) :
    Calls Try.prog 13 #[sv s] w fun e w' => e = .returned (.tuple #[sv (foldB s), .int .i64 (synT (foldB s)), .bool (oneT (foldB s)), .bool true]) ∧ Ext w w' := by
  have hf := rfold_any (w := w) s hs
  have ht := fun wx : World => rtypes_any (w := wx)
  obtain ⟨T, hT⟩ : ∃ T, T = foldB s := ⟨_, rfl⟩
  rw [← hT] at hf h ⊢
  replace hT := Lib.hid hT
  have hd : decide (T ∈ typesL) = true := dtrueI h
  obtain ⟨n, q, hn, hq, hc⟩ : ∃ n q, n = synT T ∧ q = oneT T ∧ Hid ((T = [116, 101, 108, 101, 112, 104, 111, 110, 101, 110, 117, 109, 98, 101, 114] ∧ n = 5 ∧ q = false) ∨ (T = [117, 105, 100, 110, 117, 109, 98, 101, 114] ∧ n = 2 ∧ q = true) ∨ (T = [103, 105, 100, 110, 117, 109, 98, 101, 114] ∧ n = 2 ∧ q = true) ∨ (T = [109, 101, 109, 98, 101, 114] ∧ n = 3 ∧ q = false) ∨ (T = [109, 97, 110, 97, 103, 101, 114] ∧ n = 3 ∧ q = false) ∨ (T = [115, 101, 101, 97, 108, 115, 111] ∧ n = 3 ∧ q = false) ∨ (T = [117, 115, 101, 114, 112, 97, 115, 115, 119, 111, 114, 100] ∧ n = 4 ∧ q = false) ∨ (n = 1 ∧ q = (T == [100, 105, 115, 112, 108, 97, 121, 110, 97, 109, 101]) ∧ (T == [116, 101, 108, 101, 112, 104, 111, 110, 101, 110, 117, 109, 98, 101, 114]) = false ∧ (T == [117, 105, 100, 110, 117, 109, 98, 101, 114]) = false ∧ (T == [103, 105, 100, 110, 117, 109, 98, 101, 114]) = false ∧ (T == [109, 101, 109, 98, 101, 114]) = false ∧ (T == [109, 97, 110, 97, 103, 101, 114]) = false ∧ (T == [115, 101, 101, 97, 108, 115, 111]) = false ∧ (T == [117, 115, 101, 114, 112, 97, 115, 115, 119, 111, 114, 100]) = false)) := ⟨_, _, rfl, rfl, Lib.hid (by
    simp only [typesL, List.mem_cons, List.not_mem_nil, or_false] at h
    rcases h with rfl | rfl | rfl | rfl | rfl | rfl | rfl | rfl | rfl | rfl | rfl | rfl | rfl | rfl | rfl | rfl | rfl | rfl | rfl
    all_goals decide)⟩
  rw [← hn, ← hq]
  clear h hn hq
  go_enter Try.func13, Try.ntmps13
  go_wp2_with fail
  refine hf.mono ?_
  rintro e w1 ⟨rfl, x1⟩
  clear hf
  go_wp2_with fail
  refine (ht w1).mono ?_
  rintro e w2 ⟨u, rfl, o2, x2⟩
  clear ht
  have hh := rhas_any (s := T) o2
  rw [hd] at hh
  clear o2 hd
  go_wp2_with fail
  refine hh.mono ?_
  rintro e w3 ⟨rfl, x3⟩
  rcases hc.out with ⟨rfl, rfl, rfl⟩ | ⟨rfl, rfl, rfl⟩ | ⟨rfl, rfl, rfl⟩ | ⟨rfl, rfl, rfl⟩ | ⟨rfl, rfl, rfl⟩ | ⟨rfl, rfl, rfl⟩ | ⟨rfl, rfl, rfl⟩ | ⟨rfl, rfl, e1, e2, e3, e4, e5, e6, e7⟩
  all_goals
    clear hc
    go_wp2_with fail
    refine bodyPost_ret (results_tmp4 rfl _ _ _) rfl ?_
    exact ⟨rfl, ext_trans x1 (ext_trans x2 x3)⟩
end Go.Proofs.Ytacmbomnjedbeaa
namespace Go.Proofs.Ytacmbomnjedbeaa
open Go.RowKit
set_option maxRecDepth 100000
set_option maxHeartbeats 4000000 in
theorem rescape_any {w : World} (s : List UInt8) (hn : s.length ≤ 1000000) :
    Calls Try.prog 36 #[sv s] w fun e w' => e = .returned (sv (escB s)) ∧ Ext w w' := by
  have hsz := sv_size s
  go_enter Try.func36, Try.ntmps36
  go_wp2_with fail
  go_loopw [3, 4] (fun vo i wr => ∃ k : Nat, k ≤ s.length ∧ i = .int .i64 k ∧ Own wr 5 vo (([] ++ escB (s.take k)).map bv) ∧ Next w.heap.size (.slice none 0 0) vo ∧ Mod (own (.slice none 0 0)) w wr) (fun _ i _ => s.length - (intOf i).toNat)
  case atStart => exact ⟨0, Nat.zero_le _, rfl, by simpa [escB] using Own.nil w 5, Next.refl _ _, Mod.refl _ _⟩
  case round =>
    obtain ⟨k, hk, rfl, p1, p2, p3⟩ := hrel
    by_cases hlt : k < s.length
    · have hbl : decide ((k : Int) < (s.length : Int)) = true := dtrue (by omega)
      obtain ⟨b, hbk⟩ : ∃ b, b = s[k] := ⟨_, rfl⟩
      have hg : ∀ h', (⟨s.toArray⟩ : ByteArray)[k]'h' = b := fun h' => (sv_get s k hlt h').trans hbk.symm
      have hsn := escB_snoc s hlt
      rw [← hbk] at hsn
      replace hbk := Lib.hid hbk
      have hel := escB_len (s.take k)
      rw [List.length_take] at hel
      have hol : ([] ++ escB (s.take k)).length + 1 ≤ 140737488355328 := by rw [List.length_append, List.length_nil]; omega
      have hol2 : (([] ++ escB (s.take k)) ++ [b]).length + 1 ≤ 140737488355328 := by rw [List.length_append, List.length_append]; simp; omega
      clear hel
      have heq : [] ++ escB (s.take (k + 1)) = ([] ++ escB (s.take k)) ++ (if b = 0 then [0, 255] else [b]) := by rw [hsn, List.append_assoc]
      clear hsn
      generalize [] ++ escB (s.take k) = o at *
      replace heq := Lib.hid heq
      replace hol := Lib.hid hol
      replace hol2 := Lib.hid hol2
      have hx : (b.toNat : Int) = (b.toNat : Int) := rfl
      have hx255 := Lib.hid (show (255 : Int) = ((255 : UInt8).toNat : Int) from rfl)
      by_cases hb0 : b.toNat = 0
      · have hbb : ((b.toNat : Int) == 0) = true := by rw [hb0]; rfl
        have hbz : b = 0 := UInt8.toNat_inj.1 hb0
        replace heq := Lib.hid (heq.out.trans (by rw [if_pos hbz]))
        replace hbz := Lib.hid hbz
        clear hb0
        go_wp2_with (first | ((with_reducible show wpList _ _ _ (⟨some 16, _, _, _, _, _⟩ :: _) _ _); refine wp_app1 tyB p1 hx hol.out rfl (.tmp 11) (.tmp 15) rfl rfl rfl ?_; intro v2 w2 k1 k2 k3) | ((with_reducible show wpList _ _ _ (⟨some 23, _, _, _, _, _⟩ :: _) _ _); refine wp_app1 tyB k1 hx255.out hol2.out rfl (.tmp 21) (.tmp 22) rfl rfl rfl ?_; intro v5 w5 m1 m2 m3))
        refine ⟨⟨k + 1, by omega, by go_num, ?_, (p2.trans k3 p3.size).trans m3 (Nat.le_trans p3.size k2.size), ?_⟩, by simp [intOf] <;> omega⟩
        · rw [heq.out]
          rw [hbz.out, List.append_assoc] at m1
          exact m1
        · have z2 := p3.then_ k2 (fun b hb h => p2.sub hb h)
          exact z2.then_ m2 (fun b hb h => (p2.trans k3 p3.size).sub hb h)
      · have hbb : ((b.toNat : Int) == 0) = false := by rw [beq_eq_false_iff_ne]; omega
        replace heq := Lib.hid (heq.out.trans (by rw [if_neg (fun h => hb0 (by rw [h]; rfl))]))
        clear hb0
        go_wp2_with (first | ((with_reducible show wpList _ _ _ (⟨some 16, _, _, _, _, _⟩ :: _) _ _); refine wp_app1 tyB p1 hx hol.out rfl (.tmp 11) (.tmp 15) rfl rfl rfl ?_; intro v2 w2 k1 k2 k3))
        refine ⟨⟨k + 1, by omega, by go_num, by rw [heq.out]; exact k1, p2.trans k3 p3.size, p3.then_ k2 (fun b hb h => p2.sub hb h)⟩, by simp [intOf] <;> omega⟩
    · have hbl : decide ((k : Int) < (s.length : Int)) = false := dfalse (by omega)
      rw [List.take_of_length_le (by omega), List.nil_append] at p1
      have hcv := run_conv (P := Try.prog) Try.underlying65 Try.underlying5 Try.underlying9 p1.sl
      go_wp2_with fail
      go_ret
      exact ⟨rfl, p3.ext fun k _ h => by simp [own, Value.ownBlock] at h⟩
theorem cat_part (p : List UInt8) (x : Av) : (⟨p.toArray⟩ : ByteArray) ++ ⟨x.1.toArray⟩ ++ ⟨#[61]⟩ ++ ⟨(escB x.2).toArray⟩ ++ ⟨#[0, 1]⟩ = ⟨(p ++ partK x).toArray⟩ := by
  have e1 : (⟨#[61]⟩ : ByteArray) = ⟨[(61 : UInt8)].toArray⟩ := rfl
  have e2 : (⟨#[0, 1]⟩ : ByteArray) = ⟨[(0 : UInt8), 1].toArray⟩ := rfl
  rw [e1, e2, cat_data, cat_data, cat_data, cat_data]
  unfold partK
  simp only [List.append_assoc]
set_option maxHeartbeats 4000000 in
theorem rkey_any {w : World} {v : Value} {L : List Av} (h : As w (fun b => b < w.heap.size) v L) (hw : wN L ≤ 10000) :
    Calls Try.prog 16 #[v] w fun e w' => e = .returned (sv (keyB L)) ∧ Ext w w' := by
  have hf : Fits L := fits_of (by omega)
  have hwn := norm_wN L
  have hrn := rnorm_any h hf
  have hkd : keyB L = partsK (norm L) := rfl
  rw [hkd]
  clear hkd
  obtain ⟨X, hX⟩ : ∃ X, X = norm L := ⟨_, rfl⟩
  rw [← hX] at hrn hwn ⊢
  clear hX
  obtain ⟨A0, c0, rfl⟩ := h.shape
  clear h hf
  go_enter Try.func16, Try.ntmps16
  go_wp2_with fail
  refine hrn.mono ?_
  rintro e w1 ⟨n, rfl, o1, -, x1⟩
  clear hrn
  have hxl := wN_len X
  obtain ⟨A, c, rfl, r1, r2, r3, r4⟩ := (OwnR.rc o1).open_ avc_len
  go_wp2_with fail
  go_loopw [4, 5] (fun s i wr => ∃ k : Nat, k ≤ X.length ∧ i = .int .i64 ((k : Int) - 1) ∧ s = sv (partsK (X.drop k)) ∧ Ext w1 wr) (fun _ i _ => (intOf i + 1).toNat)
  case atStart => exact ⟨X.length, Nat.le_refl _, rfl, by rw [List.drop_length]; rfl, Mod.refl _ _⟩
  case round =>
    obtain ⟨k, hk, rfl, rfl, hx⟩ := hrel
    by_cases hk0 : k = 0
    · subst hk0
      have hbl : decide ((0 : Int) ≤ ((0 : Nat) : Int) - 1) = false := rfl
      rw [List.drop_zero]
      go_wp2_with fail
      go_ret
      exact ⟨rfl, ext_trans x1 hx⟩
    obtain ⟨m, rfl⟩ : ∃ m, k = m + 1 := ⟨k - 1, by omega⟩
    have hm1 : ((m + 1 : Nat) : Int) - 1 = (m : Int) := by omega
    rw [hm1]
    clear hm1 hk0
    have hlt : m < X.length := by omega
    have hbl : decide ((0 : Int) ≤ (m : Int)) = true := dtrue (by omega)
    have hi1 : (m : Int) < (X.length : Int) := by omega
    have hcc : ∀ {wx : World}, Ext w1 wx → ∃ ad, A = some ad ∧ wx.cell? (ad.add (m * 2)) = some (sv X[m].1) ∧ wx.cell? ⟨(ad.add (m * 2)).block, (ad.add (m * 2)).off + 1, none⟩ = some (sv X[m].2) := fun {wx} e => by
      obtain ⟨ad, h1, _, h2, h3⟩ := As.at_ (r4.ext e) hlt
      exact ⟨ad, h1, h2, h3⟩
    obtain ⟨ad, hA, _, _⟩ := hcc hx
    subst hA
    have hcc2 : ∀ {wx : World}, Ext w1 wx → wx.cell? (ad.add (m * 2)) = some (sv X[m].1) ∧ wx.cell? ⟨(ad.add (m * 2)).block, (ad.add (m * 2)).off + 1, none⟩ = some (sv X[m].2) := fun {wx} e => by
      obtain ⟨ad', h1, h2, h3⟩ := hcc e
      injection h1 with h1
      subst h1
      exact ⟨h2, h3⟩
    clear hcc
    have hsn := partsK_step X hlt
    have hmem := wN_mem (List.getElem_mem hlt)
    have hpl := partsK_len (X.drop (m + 1))
    have hwd := wN_drop X (m + 1)
    have hes := escB_len X[m].2
    have hrs := fun wx : World => rescape_any (w := wx) X[m].2 (by omega)
    have hcat := cat_part (partsK (X.drop (m + 1))) X[m]
    rw [← hsn] at hcat
    generalize X[m] = x at *
    obtain ⟨p, hp⟩ : ∃ p, p = partsK (X.drop (m + 1)) := ⟨_, rfl⟩
    rw [← hp] at hcat hpl ⊢
    have hps := sv_size p
    have hx1s := sv_size x.1
    have hess := sv_size (escB x.2)
    have hpb : p.length ≤ 30000 := by omega
    have hxb : x.1.length ≤ 10000 := by omega
    have heb : (escB x.2).length ≤ 20000 := by omega
    clear hp hsn hwd hpl hmem hes
    have s1 : ¬ 9223372036854775807 < p.length + x.1.length := by omega
    have s2 : ¬ 9223372036854775807 < p.length + x.1.length + 1 := by omega
    have s3 : ¬ 9223372036854775807 < p.length + x.1.length + 1 + (escB x.2).length := by omega
    have s4 : ¬ 9223372036854775807 < p.length + x.1.length + 1 + (escB x.2).length + 2 := by omega
    have hgoal : Hid (Value.string ((⟨p.toArray⟩ : ByteArray) ++ ⟨x.1.toArray⟩ ++ ⟨#[61]⟩ ++ ⟨(escB x.2).toArray⟩ ++ ⟨#[0, 1]⟩) = sv (partsK (X.drop m))) := Lib.hid (by rw [hcat])
    clear hcat
    go_upto_region 6 with fail
    have q0 : Ext w1 wr.drew := hx.drew
    have z0 := hcc2 q0
    go_region_held3 (fun wx => wx.cell? (ad.add (m * 2)) = some (sv x.1) ∧ wx.cell? ⟨(ad.add (m * 2)).block, (ad.add (m * 2)).off + 1, none⟩ = some (sv x.2)) (first | exact z0 | exact z1)
      (first | (go_at_call 36; refine (hrs _).mono ?_; rintro e w2 ⟨rfl, x2⟩; have q1 := ext_trans q0 x2; have z1 := hcc2 q1))
    go_wp2_with fail
    exact ⟨⟨m, by omega, rfl, hgoal.out, q1⟩, by simp [intOf] <;> omega⟩
end Go.Proofs.Ytacmbomnjedbeaa
namespace Go.Proofs.Ytacmbomnjedbeaa
open Go.RowKit
set_option maxRecDepth 100000

/-- A beginning of a value. -/
def isOf (T : List UInt8) (n : Int) (v x : List UInt8) : Prop := (normM n v).2 = true ∧ (x = begB 101 T (normM n v).1 ∨ ((n = 1 ∨ n = 5) ∧ ∃ t ∈ grm (normM n v).1 ((normM n v).1.length - 2), x = begB 103 T (lx t)))
theorem isBeg_of {T : List UInt8} {n : Int} {vals : List (List UInt8)} (x : List UInt8) : isBeg T n vals x ↔ x = presB T ∨ ∃ v ∈ vals, isOf T n v x := Iff.rfl
set_option maxHeartbeats 16000000 in
theorem of_any {w : World} {T v : List UInt8} {n : Int} (hT : T.length ≤ 1000000) (hv : v.length ≤ 100000) :
    Calls Try.prog 26 #[sv T, .int .i64 n, sv v] w fun e w' => ∃ u, e = .returned u ∧ ∃ B, OwnT w' u B ∧ (∀ x, x ∈ B ↔ isOf T n v x) ∧ B.length ≤ 1 + v.length ∧ Ext w w' := by
  have hc := rmnorm_any (w := w) n v (by omega)
  have hgr := fun h => normM_gram (n := n) (s := v) h
  have hN8 := normM_big (n := n) (s := v)
  unfold isOf
  generalize hN : (normM n v).1 = N at *
  generalize hK : (normM n v).2 = K at *
  go_enter Try.func26, Try.ntmps26
  go_wp2_with fail
  refine hc.mono ?_
  rintro e w1 ⟨rfl, x1⟩
  clear hc hN hK
  cases K with
  | false =>
    clear hgr hN8
    go_wp2_with fail
    go_ret
    exact ⟨_, rfl, [], Own.nil _ _, fun x => by simp, by simp, x1⟩
  | true =>
    have hc := refEqual_any (w := w1) (t := T) (s := N) (by omega) (by omega)
    go_wp2_with fail
    refine hc.mono ?_
    rintro e w2 ⟨rfl, x2⟩
    have o2 : OwnT (w2.alloc (.cells #[sv (begB 101 T N)] 9)) (.slice (some ⟨w2.heap.size, 0, none⟩) 1 1) [begB 101 T N] := Own.lit w2 9 [sv (begB 101 T N)] (by simp [maxLen])
    have y2 := ext_trans x1 x2
    have f2 : Fresh w.heap.size (.slice (some ⟨w2.heap.size, 0, none⟩) 1 1) := fun k hk => by have : w2.heap.size = k := Option.some.inj hk; have := y2.size; omega
    have z2 := ext_trans y2 ((Mod.refl _ w2).alloc (.cells #[sv (begB 101 T N)] 9))
    clear hc x1 x2 y2
    by_cases hn15 : n = 1 ∨ n = 5
    case neg =>
      have b1 : (n == 1) = false := by rw [beq_eq_false_iff_ne]; omega
      have b5 : (n == 5) = false := by rw [beq_eq_false_iff_ne]; omega
      have hB : Hid (∀ x, x ∈ [begB 101 T N] ↔ true = true ∧ (x = begB 101 T N ∨ ((n = 1 ∨ n = 5) ∧ ∃ t ∈ grm N (N.length - 2), x = begB 103 T (lx t)))) := Lib.hid fun x => by rw [List.mem_singleton]; simp [hn15]
      clear hgr hn15
      go_wp2_with fail
      go_ret
      exact ⟨_, rfl, _, o2, (by simpa using hB.out), by simp, z2⟩
    have hbq : (n == 1) = true ∨ ((n == 1) = false ∧ (n == 5) = true) := by
      rcases hn15 with h | h
      · exact .inl (by rw [h]; rfl)
      · exact .inr ⟨by rw [h]; rfl, by rw [h]; rfl⟩
    have hgl := hgr hn15
    have hn16 := Lib.hid hn15
    clear hgr hn15
    rcases hbq with b1 | ⟨b1, b5⟩
    all_goals
      have hcg := fun wx : World => refGrams_any (w := wx) (s := N) (by omega)
      go_wp2_with fail
      refine (hcg _).mono ?_
      rintro e w7 ⟨u8, G, rfl, o8, ⟨hr8, hG8⟩, x7⟩
      have hgn := grams_len hr8 hG8
      have o7 := o2.mod x7 (fun _ _ h => h)
      have d7 : ∀ b, b < w7.heap.size → (w2.alloc (.cells #[sv (begB 101 T N)] 9)).heap.size ≤ b → ¬ own (.slice (some ⟨w2.heap.size, 0, none⟩) 1 1) b := fun b _ hb ho => by have := o2.lt ho; omega
      have o9 : Ts w7 (fun b => ¬ own (.slice (some ⟨w2.heap.size, 0, none⟩) 1 1) b) u8 G := o8.mono d7
      have y7 := ext_trans z2 x7
      have hG9 := Lib.hid hG8
      clear hG8 hr8 x7 o2 z2 hcg
      obtain ⟨A8, c8, e8, h81, h82, h83, h84⟩ := Sl.open_ o8
      subst e8
      clear o8 d7
      have hG0 : ∀ x ∈ G, x.length ≤ 8000 := fun x hx => by
        obtain ⟨t, _, e⟩ := (hG9.out x).1 hx
        rw [e]; simp [lx]
      have hgm : G.length ≤ 8000 := by omega
      clear h84
      go_wp2_with fail
      go_loopw [9, 11] (fun u i wr => ∃ (j : Nat) (B2 : Tx), j ≤ G.length ∧ i = .int .i64 j ∧ OwnT wr u B2 ∧ Fresh w.heap.size u ∧ Hid (B2 = [begB 101 T N] ++ (G.take j).map (begB 103 T)) ∧ B2.length = 1 + j ∧ Ts wr (fun b => ¬ own u b) (.slice A8 G.length c8) G ∧ Ext w wr) (fun _ i _ => G.length - (intOf i).toNat)
      case atStart => exact ⟨0, _, Nat.zero_le _, rfl, o7, f2, Lib.hid (by simp), by simp, o9, y7⟩
      case round =>
        clear o7 f2 o9 y7
        obtain ⟨j, B2, hj, rfl, o7, f6, hB2, hl2, o8, y7⟩ := hrel
        by_cases hjt : j < G.length
        case neg =>
          have hjl : decide ((j : Int) < (G.length : Int)) = false := dfalse (by omega)
          have hjn : decide (j < G.length) = false := dfalse (by omega)
          have hjj : j = G.length := by omega
          have hB3 : Hid (∀ x, x ∈ B2 ↔ true = true ∧ (x = begB 101 T N ∨ ((n = 1 ∨ n = 5) ∧ ∃ t ∈ grm N (N.length - 2), x = begB 103 T (lx t)))) := Lib.hid fun x => by
            rw [hB2.out, hjj, List.take_length, List.mem_append, List.mem_singleton]
            simp only [hn16.out, true_and]
            refine or_congr Iff.rfl ?_
            rw [List.mem_map]
            constructor
            · rintro ⟨y, hy, e⟩
              obtain ⟨t, ht, e2⟩ := (hG9.out y).1 hy
              exact ⟨t, ht, by rw [← e, e2]⟩
            · rintro ⟨t, ht, e⟩
              exact ⟨lx t, (hG9.out _).2 ⟨t, ht, rfl⟩, e.symm⟩
          have hbl : B2.length ≤ 1 + v.length := by omega
          clear hG9 hB2 hn16 hl2
          go_wp2_with fail
          go_ret
          exact ⟨_, rfl, _, o7, (by simpa using hB3.out), hbl, y7⟩
        have hjl : decide ((j : Int) < (G.length : Int)) = true := dtrue (by omega)
        have hjn : decide (j < G.length) = true := dtrue (by omega)
        have hj0 : (0 : Int) ≤ (j : Int) := by omega
        have hj1 : (j : Int) < (G.length : Int) := by omega
        obtain ⟨A9, c9, e9, _, _, _, h5⟩ := Sl.open_ o8
        injection e9 with e1 e2 e3
        clear e2
        subst e1
        subst e3
        obtain ⟨ag, e2, _, h6⟩ := h5.at_ hjt
        subst e2
        have hgl8 := hG0 _ (List.getElem_mem hjt)
        have htk : (G.take (j + 1)).map (begB 103 T) = (G.take j).map (begB 103 T) ++ [begB 103 T G[j]] := by rw [List.take_succ_eq_append_getElem hjt, List.map_append]; rfl
        generalize G[j] = g at hgl8 htk h6
        have hc := refGram_any (w := wr) (t := T) (s := g) (by omega) (by omega)
        clear h5
        go_wp2_with fail
        refine hc.mono ?_
        rintro e w8 ⟨rfl, x8⟩
        have o9 := o7.mod x8 (fun _ _ h => h)
        have o10 := Sl.ext o8 x8
        have y9 := ext_trans y7 x8
        have hB3 : Hid (B2 ++ [begB 103 T g] = [begB 101 T N] ++ (G.take (j + 1)).map (begB 103 T)) := Lib.hid (by rw [htk, hB2.out, List.append_assoc])
        clear hc htk hB2 o7 o8 y7 x8 h6
        go_wp2_with ((with_reducible show wpList _ _ _ (⟨some 46, _, _, _, _, _⟩ :: _) _ _); refine wp_appT o9 (by omega) rfl (.tmp 38) (.tmp 45) rfl rfl rfl ?_; intro u2 w9 o11 m9 n9)
        exact ⟨⟨j + 1, _, by omega, by go_num, o11, n9.fresh f6 y9.size, hB3, by simp; omega, (Sl.mod (o10.mono (T := fun b => ¬ own _ b ∧ ¬ own u2 b) (fun b hb h1 => ⟨h1, fun h2 => h1 (n9.sub hb h2)⟩)) m9 (fun _ _ h1 => h1.1)).mono (fun _ _ h1 => h1.2), ext_app0 y9 f6 m9⟩, by simp [intOf] <;> omega⟩
end Go.Proofs.Ytacmbomnjedbeaa
namespace Go.Proofs.Ytacmbomnjedbeaa
open Go.RowKit
set_option maxRecDepth 100000

theorem isKeyO_next {K : List UInt8} {L : List Att} {k : Nat} (h : k < L.length) (x : List UInt8) : isKey K (L.take (k + 1)) x ↔ isKey K (L.take k) x ∨ ∃ b, (∃ n q, lk ⟨(foldB L[k].typ).toArray⟩ tyD = some (.agg #[.int .i64 n, .bool q]) ∧ L[k].vals ≠ [] ∧ isBeg (foldB L[k].typ) n L[k].vals b) ∧ x = b ++ K := isKey_next h x
/-- What is laid in of an attribute, behind j of its values. -/
def Laid (K T : List UInt8) (n : Int) (vals : List (List UInt8)) (j : Nat) (x : List UInt8) : Prop := (vals ≠ [] ∧ x = presB T ++ K) ∨ ∃ v ∈ vals.take j, ∃ b, isOf T n v b ∧ x = b ++ K
theorem laid_next {K T : List UInt8} {n : Int} {vals : List (List UInt8)} {j : Nat} (h : j < vals.length) (x : List UInt8) : Laid K T n vals (j + 1) x ↔ Laid K T n vals j x ∨ ∃ b, isOf T n vals[j] b ∧ x = b ++ K := by
  unfold Laid
  rw [List.take_succ_eq_append_getElem h]
  simp only [List.mem_append, List.mem_singleton]
  constructor
  · rintro (h | ⟨v, hv | hv, h⟩)
    · exact .inl (.inl h)
    · exact .inl (.inr ⟨v, hv, h⟩)
    · subst hv; exact .inr h
  · rintro ((h | ⟨v, hv, h⟩) | h)
    · exact .inl h
    · exact .inr ⟨v, .inl hv, h⟩
    · exact .inr ⟨_, .inr rfl, h⟩
theorem laid_all {K T : List UInt8} {m : Int} {p : Bool} {vals : List (List UInt8)} (hl : lk ⟨T.toArray⟩ tyD = some (.agg #[.int .i64 m, .bool p])) (x : List UInt8) : Laid K T m vals vals.length x ↔ ∃ b, (∃ n q, lk ⟨T.toArray⟩ tyD = some (.agg #[.int .i64 n, .bool q]) ∧ vals ≠ [] ∧ isBeg T n vals b) ∧ x = b ++ K := by
  unfold Laid
  rw [List.take_length]
  constructor
  · rintro (⟨h, e⟩ | ⟨v, hv, b, hb, e⟩)
    · exact ⟨_, ⟨m, p, hl, h, .inl rfl⟩, e⟩
    · exact ⟨b, ⟨m, p, hl, List.ne_nil_of_mem hv, .inr ⟨v, hv, hb⟩⟩, e⟩
  · rintro ⟨b, ⟨n, q, h, hv, hb⟩, e⟩
    rw [hl] at h
    injection h with h
    injection h with h
    have h1 := congrArg (fun (a : Array Value) => a[0]?) h
    simp at h1
    rw [← h1] at hb
    rcases hb with hb | ⟨v, hv2, hb⟩
    · exact .inl ⟨hv, by rw [e, hb]⟩
    · exact .inr ⟨v, hv2, b, hb, e⟩
set_option maxHeartbeats 32000000 in
theorem rkeysI_any {w : World} {vd va : Value} {E : Ent} (hd : As w AllE vd E.dn) (ha : Ats w va E.ats) (hw : wE E ≤ 4000) :
    Calls Try.prog 10 #[.agg #[vd, va]] w fun e w' => ∃ u, e = .returned u ∧ ∃ G, Ts w' AllE u G ∧ riseT G ∧ (∀ x, x ∈ G ↔ isKey (keyB E.dn) E.ats x) ∧ Ext w w' := by
  obtain ⟨K, hK⟩ : ∃ K, K = keyB E.dn := ⟨_, rfl⟩
  obtain ⟨L, hL⟩ : ∃ L, L = E.ats := ⟨_, rfl⟩
  have hwd : wN E.dn ≤ 4000 := by have e : wE E = wN E.dn + wA E.ats := rfl; omega
  have hwa : wA E.ats ≤ 4000 := by have e : wE E = wN E.dn + wA E.ats := rfl; omega
  have hKl : K.length ≤ 100000 := by
    rw [hK]
    have h1 := partsK_len (norm E.dn)
    have h2 := norm_wN E.dn
    show (partsK (norm E.dn)).length ≤ 100000
    omega
  rw [← hK, ← hL]
  rw [← hL] at hwa ha
  have hge := wA_ge L
  obtain ⟨A, c, hva, -⟩ := ha.open_
  obtain ⟨m, hm⟩ : ∃ m, m = L.length := ⟨_, rfl⟩
  rw [← hm] at hva
  subst hva
  obtain ⟨w1, hw1⟩ : ∃ x, x = w.alloc (.cells #[vd, .slice A m c] 25) := ⟨_, rfl⟩
  obtain ⟨p, hp⟩ : ∃ p, p = w.heap.size := ⟨_, rfl⟩
  have x1 : Ext w w1 := by rw [hw1]; exact (Mod.refl _ w).alloc _
  have BP : Blk w1 p 25 #[vd, .slice A m c] := by rw [hw1, hp]; exact Blk.new w _ _
  have hpc : ∀ {wx : World}, Ext w1 wx → wx.cell? ⟨p, 1, none⟩ = some (.slice A m c) := fun x => (BP.mod x (fun h => h)).cell 1
  have p0 : w1.cell? ⟨p, 0, none⟩ = some vd := BP.cell 0
  have hM : m ≤ 4000 := by omega
  have hws : w.heap.size ≤ w1.heap.size := x1.size
  have hc := rkey_any (w := w1) ((hd.ext x1).mono (fun _ hb _ => hb)) (by omega)
  rw [← hK] at hc
  replace hK := Lib.hid hK
  replace hL := Lib.hid hL
  replace hm := Lib.hid hm
  replace hw1 := Lib.hid hw1
  replace hp := Lib.hid hp
  have ha1 := ha.ext x1
  clear BP ha hd
  go_enter Try.func10, Try.ntmps10
  go_upto_region 1 with fail
  rw [← hw1.out, ← hp.out]
  clear hw1 hp
  go_wp2_with fail
  refine hc.mono ?_
  rintro e w2 ⟨rfl, x2⟩
  go_wp2_with fail
  clear p0 hc
  go_loopw [4, 5, 6, 7, 8, 9] (fun u i t6 t7 t8 t9 wr => ∃ (k : Nat) (S : Tx), k ≤ m ∧ i = .int .i64 k ∧ Ts wr AllE u S ∧ riseT S ∧ Hid (∀ x, x ∈ S ↔ isKey K (L.take k) x) ∧ S.length ≤ wA (L.take k) ∧ Ext w1 wr) (fun _ i _ _ _ _ _ => m - (intOf i).toNat)
  case atStart => exact ⟨0, [], Nat.zero_le _, rfl, Sl.nil _ _, List.Pairwise.nil, Lib.hid (fun x => by simp [isKey]), Nat.zero_le _, x2⟩
  case round =>
    clear x2
    obtain ⟨k, S, hk, rfl, tS, rS, hS2, hcn, hx⟩ := hrel
    by_cases hlt : k < m
    case neg =>
      have hbl : decide ((k : Int) < (m : Int)) = false := dfalse (by omega)
      have hbn : decide (k < m) = false := dfalse (by omega)
      have hmm := hm.out
      rw [List.take_of_length_le (by omega)] at hS2
      have q1 := hpc hx
      go_wp2_with fail
      go_ret
      exact ⟨_, rfl, S, tS, rS, hS2.out, ext_trans x1 hx⟩
    have hbl : decide ((k : Int) < (m : Int)) = true := dtrue (by omega)
    have hbn : decide (k < m) = true := dtrue (by omega)
    have hi0 : (0 : Int) ≤ (k : Int) := by omega
    have hi1 : (k : Int) < (m : Int) := by omega
    have l1 : k < L.length := by have := hm.out; omega
    obtain ⟨A2, c2, e1, h5⟩ := (ha1.ext hx).open_
    injection e1 with e1 e2 e3
    clear e2
    subst e1
    subst e3
    obtain ⟨ad, y, e2, h6, h7, h8⟩ := h5 k l1
    subst e2
    have hsn := fun x => isKeyO_next (K := K) l1 x
    have hwn := wA_next L l1
    have hwt := wA_take L (k + 1)
    generalize L[k].typ = t at *
    generalize L[k].vals = V at *
    obtain ⟨T, hT⟩ : ∃ T, T = foldB t := ⟨_, rfl⟩
    have hfl := foldB_len t
    rw [← hT] at hsn hfl
    have hge2 := wV_ge V
    have hvl : ∀ v ∈ V, v.length ≤ 4000 := fun v hv => by have := wV_mem hv; omega
    obtain ⟨n, ok, T2, q, hc, hok⟩ : ∃ (n : Int) (ok : Bool) (T2 : List UInt8) (q : Bool), (Calls Try.prog 13 #[sv t] wr fun e w' => e = .returned (.tuple #[sv T2, .int .i64 n, .bool q, .bool ok]) ∧ Ext wr w') ∧ ((ok = false ∧ lk ⟨T.toArray⟩ tyD = none) ∨ (ok = true ∧ T2 = T ∧ lk ⟨T.toArray⟩ tyD = some (.agg #[.int .i64 n, .bool q]))) := by
      by_cases ht : foldB t ∈ typesL
      · exact ⟨_, _, _, _, rtype_yes (by omega) ht, .inr ⟨rfl, hT.symm, by rw [hT]; exact lk_types _ ht⟩⟩
      · exact ⟨_, _, [], _, rtype_no (by omega) ht, .inl ⟨rfl, by rw [hT]; exact lk_others ht⟩⟩
    obtain ⟨Ay, cy, ey, -, -, -, h9⟩ := h8.open_
    subst ey
    have hvx : ∀ {wx : World}, Ext wr wx → wx.cell? ⟨(ad.add (k * 2)).block, (ad.add (k * 2)).off + 1, none⟩ = some (.slice Ay V.length cy) := fun x => ext_cell x h7
    obtain ⟨N, hN⟩ : ∃ N, N = V.length := ⟨_, rfl⟩
    rw [← hN] at h8 hvx
    clear h5 h9 h7 hT
    have q1 := hpc hx
    go_wp2_with fail
    refine hc.mono ?_
    rintro e w3 ⟨rfl, x3⟩
    have q3 := hpc (ext_trans hx x3)
    have v3 := hvx x3
    have t3 := Sl.ext tS x3
    have y3 := ext_trans hx x3
    have hV3 := Sl.ext h8 x3
    clear hc q1 h6 hvx h8 tS
    have hsn2 := Lib.hid hsn
    have hok2 := Lib.hid hok
    have hN4 : N ≤ 4000 := by omega
    have hN2 := Lib.hid hN
    clear hsn hok hN
    cases ok with
    | false =>
      have hS3 : Hid (∀ x, x ∈ S ↔ isKey K (L.take (k + 1)) x) := Lib.hid fun x => by
        rw [hsn2.out, hS2.out]
        have hl : lk ⟨T.toArray⟩ tyD = none := by
          rcases hok2.out with ⟨_, h⟩ | ⟨h, _⟩
          · exact h
          · cases h
        constructor
        · exact .inl
        · rintro (h | ⟨b, ⟨n, q, h, _⟩, _⟩)
          · exact h
          · rw [hl] at h; cases h
      have hcn2 : S.length ≤ wA (L.take (k + 1)) := by omega
      clear hS2 hsn2 hok2
      go_wp2_with fail
      go_loopw [4, 11] (fun u i wr => i = .int .i64 0 ∧ Ts wr AllE u S ∧ Ext w1 wr) (fun _ i _ => 1)
      case atStart => exact ⟨rfl, t3, y3⟩
      case round =>
        clear t3 y3
        obtain ⟨rfl, t3, y3⟩ := hrel
        by_cases h0 : N = 0
        · subst h0
          go_wp2_with fail
          exact ⟨⟨k + 1, S, by omega, by go_num, t3, rS, hS3, hcn2, y3⟩, by simp [intOf] <;> omega⟩
        · have hbl2 : decide ((0 : Int) < (N : Int)) = true := dtrue (by omega)
          have hbn2 : decide (0 < N) = true := dtrue (by omega)
          go_wp2_with fail
          exact ⟨⟨k + 1, S, by omega, by go_num, t3, rS, hS3, hcn2, y3⟩, by simp [intOf] <;> omega⟩
    | true =>
      obtain ⟨rfl, hl⟩ : T2 = T ∧ Hid (lk ⟨T.toArray⟩ tyD = some (.agg #[.int .i64 n, .bool q])) := by
        rcases hok2.out with ⟨h, _⟩ | ⟨_, h1, h2⟩
        · cases h
        · exact ⟨h1, Lib.hid h2⟩
      clear hok2
      have hS3 : Hid (∀ x, isKey K (L.take (k + 1)) x ↔ isKey K (L.take k) x ∨ Laid K T2 n V V.length x) := Lib.hid fun x => by rw [hsn2.out, laid_all hl.out]
      clear hsn2 hl
      by_cases h0 : N = 0
      · have hS4 : Hid (∀ x, x ∈ S ↔ isKey K (L.take (k + 1)) x) := Lib.hid fun x => by
          have hV0 : V = [] := List.eq_nil_of_length_eq_zero (by have := hN2.out; omega)
          rw [hS3.out, hS2.out, hV0]
          unfold Laid
          simp
        have hcn2 : S.length ≤ wA (L.take (k + 1)) := by omega
        subst h0
        clear hS2 hS3
        go_wp2_with fail
        go_loopw [4, 11] (fun u i wr => i = .int .i64 0 ∧ Ts wr AllE u S ∧ Ext w1 wr) (fun _ i _ => 1)
        case atStart => exact ⟨rfl, t3, y3⟩
        case round =>
          clear t3 y3
          obtain ⟨rfl, t3, y3⟩ := hrel
          go_wp2_with fail
          exact ⟨⟨k + 1, S, by omega, by go_num, t3, rS, hS4, hcn2, y3⟩, by simp [intOf] <;> omega⟩
      have hbl2 : decide ((0 : Int) < (N : Int)) = true := dtrue (by omega)
      have hbn2 : decide (0 < N) = true := dtrue (by omega)
      have hVne : Hid (V ≠ []) := Lib.hid fun h => by rw [h] at hN2; exact h0 hN2.out
      obtain ⟨P, hP⟩ : ∃ P, P = presB T2 := ⟨_, rfl⟩
      have hPl : P.length ≤ 5000 := by rw [hP]; unfold presB; simp only [List.length_append, List.length_cons, List.length_nil]; omega
      have hc := refPresent_any (w := w3) (t := T2) (by omega)
      rw [← hP] at hc
      replace hP := Lib.hid hP
      clear h0
      go_wp2_with fail
      refine hc.mono ?_
      rintro e w4 ⟨rfl, x4⟩
      have hc2 := fun wx x => lay_any (w := wx) (s := P ++ K) (Sl.ext t3 x) rS (by omega)
      have q4 := hpc (ext_trans y3 x4)
      clear hc
      go_wp2_with fail
      refine (hc2 _ x4).mono ?_
      rintro e w5 ⟨⟨u5, rfl, S5, t5, r5, m5, l5⟩, x5⟩
      have y5 := ext_trans y3 (ext_trans x4 x5)
      have z5 := ext_trans x4 x5
      have hV5 := Sl.ext hV3 z5
      replace t5 := t5.mono (T := AllE) (fun _ _ _ => trivial)
      have m6 : Hid (∀ x, x ∈ S5 ↔ isKey K (L.take k) x ∨ Laid K T2 n V 0 x) := Lib.hid fun x => by
        rw [m5, hS2.out]
        unfold Laid
        rw [← hP.out]
        simp [hVne.out]
      clear hc2 x4 x5 q4 z5 y3 t3 hV3 m5 hS2 hVne hbl2 hbn2 rS
      go_wp2_with fail
      go_loopw [4, 11] (fun u i wr => ∃ (j : Nat) (S : Tx), j ≤ N ∧ i = .int .i64 j ∧ Ts wr AllE u S ∧ riseT S ∧ Hid (∀ x, x ∈ S ↔ isKey K (L.take k) x ∨ Laid K T2 n V j x) ∧ S.length ≤ wA (L.take k) + 1 + wV (V.take j) ∧ Ext w5 wr) (fun _ i _ => N - (intOf i).toNat)
      case atStart => exact ⟨0, S5, Nat.zero_le _, rfl, t5, r5, m6, by simp; omega, Mod.refl _ _⟩
      case round =>
        clear t5 r5 m6 l5 hcn
        obtain ⟨j, S6, hj, rfl, t6, r6, m6, l6, x6⟩ := hrel
        have y6 := ext_trans y5 x6
        by_cases hjt : j < N
        case neg =>
          have hjl : decide ((j : Int) < (N : Int)) = false := dfalse (by omega)
          have hjn : decide (j < N) = false := dfalse (by omega)
          have hS4 : Hid (∀ x, x ∈ S6 ↔ isKey K (L.take (k + 1)) x) := Lib.hid fun x => by
            rw [hS3.out, m6.out]
            have : j = V.length := by have := hN2.out; omega
            rw [this]
          have hl7 : S6.length ≤ wA (L.take (k + 1)) := by
            have e : V.take j = V := List.take_of_length_le (by have := hN2.out; omega)
            rw [e] at l6
            omega
          clear hS3 m6
          go_wp2_with fail
          exact ⟨⟨k + 1, S6, by omega, by go_num, t6, r6, hS4, hl7, y6⟩, by simp [intOf] <;> omega⟩
        have hjl : decide ((j : Int) < (N : Int)) = true := dtrue (by omega)
        have hjn : decide (j < N) = true := dtrue (by omega)
        have hj0 : (0 : Int) ≤ (j : Int) := by omega
        have hj1 : (j : Int) < (N : Int) := by omega
        have hjv : j < V.length := by have := hN2.out; omega
        obtain ⟨A9, c9, e9, _, _, _, h5⟩ := (Sl.ext hV5 x6).open_
        rw [← hN2.out] at e9
        injection e9 with e1 e2 e3
        clear e2
        subst e1
        subst e3
        obtain ⟨ag, e2, _, h6⟩ := h5.at_ hjv
        subst e2
        have hln := fun x => laid_next (K := K) (T := T2) (n := n) hjv x
        have hwv := sumF_next vW V hjv
        rw [← wV_sum, ← wV_sum] at hwv
        have hwt2 := sumF_take vW V (j + 1)
        rw [← wV_sum, ← wV_sum] at hwt2
        have hvj := hvl _ (List.getElem_mem hjv)
        generalize V[j] = v at *
        have hvw : vW v = 1 + v.length := rfl
        rw [hvw] at hwv
        have hc := of_any (w := wr) (T := T2) (v := v) (n := n) (by omega) (by omega)
        clear h5 hjv
        have hln2 := Lib.hid hln
        clear hln
        go_wp2_with fail
        refine hc.mono ?_
        rintro e w7 ⟨u7, rfl, B, o7, m7, l7, x7⟩
        have t7 := Sl.ext t6 x7
        have x8 := ext_trans x6 x7
        have tB := o7.sl.mono (T := AllE) (fun _ _ _ => trivial)
        have hBl : ∀ x ∈ B, x.length ≤ 100000 := fun x hx => by
          have := isBeg_len (T := T2) (n := n) (vals := [v]) (.inr ⟨v, by simp, (m7 x).1 hx⟩)
          omega
        obtain ⟨A8, c8, e8, -⟩ := tB.open_
        subst e8
        have m8 := Lib.hid m7
        clear hc m7 o7 t6 x6 x7 h6 y6
        obtain ⟨M, hM9⟩ : ∃ M, M = B.length := ⟨_, rfl⟩
        rw [← hM9] at tB l7 ⊢
        replace hM9 := Lib.hid hM9
        go_wp2_with fail
        go_loopw [4, 13] (fun u i wr => ∃ (r : Nat) (S : Tx), r ≤ M ∧ i = .int .i64 r ∧ Ts wr AllE u S ∧ riseT S ∧ Hid (∀ x, x ∈ S ↔ (isKey K (L.take k) x ∨ Laid K T2 n V j x) ∨ ∃ b ∈ B.take r, x = b ++ K) ∧ S.length ≤ wA (L.take k) + 1 + wV (V.take j) + r ∧ Ext w7 wr) (fun _ i _ => M - (intOf i).toNat)
        case atStart => exact ⟨0, S6, Nat.zero_le _, rfl, t7, r6, Lib.hid (fun x => by rw [m6.out]; simp), by omega, Mod.refl _ _⟩
        case round =>
          clear t7 r6 m6 l6
          obtain ⟨r, S7, hr, rfl, t7, r7, m7, l8, x9⟩ := hrel
          by_cases hrt : r < M
          case neg =>
            have hrl : decide ((r : Int) < (M : Int)) = false := dfalse (by omega)
            have hrn : decide (r < M) = false := dfalse (by omega)
            have hS4 : Hid (∀ x, x ∈ S7 ↔ isKey K (L.take k) x ∨ Laid K T2 n V (j + 1) x) := Lib.hid fun x => by
              have e : B.take r = B := List.take_of_length_le (by have := hM9.out; omega)
              rw [m7.out, hln2.out, e, or_assoc]
              refine or_congr Iff.rfl (or_congr Iff.rfl ?_)
              constructor
              · rintro ⟨b, hb, h⟩; exact ⟨b, (m8.out b).1 hb, h⟩
              · rintro ⟨b, hb, h⟩; exact ⟨b, (m8.out b).2 hb, h⟩
            have x10 := ext_trans x8 x9
            clear hS3 m7 m8 hln2
            go_wp2_with fail
            exact ⟨⟨j + 1, S7, by omega, by go_num, t7, r7, hS4, by omega, x10⟩, by simp [intOf] <;> omega⟩
          have hrl : decide ((r : Int) < (M : Int)) = true := dtrue (by omega)
          have hrn : decide (r < M) = true := dtrue (by omega)
          have hr0 : (0 : Int) ≤ (r : Int) := by omega
          have hr1 : (r : Int) < (M : Int) := by omega
          have hrb : r < B.length := by have := hM9.out; omega
          obtain ⟨A9, c9, e9, _, _, _, h5⟩ := (Sl.ext tB x9).open_
          rw [← hM9.out] at e9
          injection e9 with e1 e2 e3
          clear e2
          subst e1
          subst e3
          obtain ⟨ag, e2, _, h6⟩ := h5.at_ hrb
          subst e2
          have hbl4 := hBl _ (List.getElem_mem hrb)
          have htk : B.take (r + 1) = B.take r ++ [B[r]] := List.take_succ_eq_append_getElem hrb
          generalize B[r] = b at hbl4 htk h6
          have hc := lay_any (s := b ++ K) t7 r7 (by omega)
          replace htk := Lib.hid htk
          clear h5 hrb
          go_wp2_with fail
          refine hc.mono ?_
          rintro e w8 ⟨⟨u8, rfl, S8, t8, r8, m9, l9⟩, x10⟩
          have t9 := t8.mono (T := AllE) (fun _ _ _ => trivial)
          have m10 : Hid (∀ x, x ∈ S8 ↔ (isKey K (L.take k) x ∨ Laid K T2 n V j x) ∨ ∃ b ∈ B.take (r + 1), x = b ++ K) := Lib.hid fun x => by
            rw [m9, m7.out, htk.out, or_assoc (b := ∃ b ∈ B.take r, x = b ++ K)]
            refine or_congr Iff.rfl ?_
            simp only [List.mem_append, List.mem_singleton]
            constructor
            · rintro (⟨b, hb, h⟩ | h)
              · exact ⟨b, .inl hb, h⟩
              · exact ⟨_, .inr rfl, h⟩
            · rintro ⟨b, hb | rfl, h⟩
              · exact .inl ⟨b, hb, h⟩
              · exact .inr h
          have x11 := ext_trans x9 x10
          clear hc t8 m7 m9 htk x9 x10 t7 r7
          go_wp2_with fail
          exact ⟨⟨r + 1, S8, by omega, by go_num, t9, r8, m10, by omega, x11⟩, by simp [intOf] <;> omega⟩
end Go.Proofs.Ytacmbomnjedbeaa
