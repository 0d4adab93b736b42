/- index: texts without bare noughts; how keys begin. -/
import Derived.Test.YtacmbomnjedbeaaIxI
import Derived.Test.YtacmbomnjedbeaaIxB
import Derived.Test.YtacmbomnjedbeaaStrB
import Derived.Test.YtacmbomnjedbeaaOctR
import Derived.RegionTactic
import Derived.Deep.Cut
namespace Go.Proofs.Ytacmbomnjedbeaa
open Go.RowKit
set_option maxRecDepth 100000

theorem sv_getI (l : List UInt8) (k : Nat) (_h : k < l.length) (h' : k < (⟨l.toArray⟩ : ByteArray).size) : (⟨l.toArray⟩ : ByteArray)[k]'h' = l[k] := by
  show l.toArray[k] = l[k]
  simp
/-- A text without bare noughts. -/
def escI (s : List UInt8) : List UInt8 := s.flatMap fun b => if b = 0 then [0, 255] else [b]
theorem escI_snoc (s : List UInt8) {k : Nat} (h : k < s.length) : escI (s.take (k + 1)) = escI (s.take k) ++ (if s[k] = 0 then [0, 255] else [s[k]]) := by
  unfold escI
  rw [List.take_succ_eq_append_getElem h, List.flatMap_append]
  simp
theorem escI_len (s : List UInt8) : (escI s).length ≤ 2 * s.length := by
  unfold escI
  induction s with
  | nil => simp
  | cons b s ih => rw [List.flatMap_cons, List.length_append, List.length_cons]; have : (if b = 0 then [0, 255] else [b] : List UInt8).length ≤ 2 := by split <;> simp
                   omega

set_option maxHeartbeats 2000000 in
theorem escapeI_any {w : World} {v : Value} {l s : List UInt8} (h : Own w 5 v (l.map bv)) (hn : l.length + 2 * s.length ≤ 100000000) :
    Calls Try.prog 39 #[v, sv s] w fun e w' => ∃ v', e = .returned v' ∧ Own w' 5 v' ((l ++ escI s).map bv) ∧ Next w.heap.size v v' ∧ Mod (own v) w w' := by
  have hsz := sv_sizeI s
  go_enter Try.func39, Try.ntmps39
  go_wp2_with fail
  go_loopw [0, 8] (fun vo i wr => ∃ k : Nat, k ≤ s.length ∧ i = .int .i64 k ∧ Own wr 5 vo ((l ++ escI (s.take k)).map bv) ∧ Next w.heap.size v vo ∧ Mod (own v) w wr) (fun _ i _ => s.length - (intOf i).toNat)
  case atStart => exact ⟨0, Nat.zero_le _, rfl, by simpa [escI] using h, Next.refl _ _, Mod.refl _ _⟩
  case round =>
    obtain ⟨k, hk, rfl, p1, p2, p3⟩ := hrel
    by_cases hlt : k < s.length
    · have hbl : decide ((k : Int) < (s.length : Int)) = true := dtrueI (by omega)
      obtain ⟨b, hbk⟩ : ∃ b, b = s[k] := ⟨_, rfl⟩
      have hg : ∀ h', (⟨s.toArray⟩ : ByteArray)[k]'h' = b := fun h' => (sv_getI s k hlt h').trans hbk.symm
      have hsn := escI_snoc s hlt
      rw [← hbk] at hsn
      replace hbk := Lib.hid hbk
      have hel := escI_len (s.take k)
      rw [List.length_take] at hel
      have hol : (l ++ escI (s.take k)).length + 1 ≤ 140737488355328 := by rw [List.length_append]; omega
      have hol2 : ((l ++ escI (s.take k)) ++ [b]).length + 1 ≤ 140737488355328 := by rw [List.length_append, List.length_append]; simp; omega
      clear hel
      have heq : l ++ escI (s.take (k + 1)) = (l ++ escI (s.take k)) ++ (if b = 0 then [0, 255] else [b]) := by rw [hsn, List.append_assoc]
      clear hsn
      generalize l ++ escI (s.take k) = o at *
      replace heq := Lib.hid heq
      replace hol := Lib.hid hol
      replace hol2 := Lib.hid hol2
      have hx : (b.toNat : Int) = (b.toNat : Int) := rfl
      have hx255 := Lib.hid (show (255 : Int) = ((255 : UInt8).toNat : Int) from rfl)
      by_cases hb0 : b.toNat = 0
      · have hbb : ((b.toNat : Int) == 0) = true := by rw [hb0]; rfl
        have hbz : b = 0 := UInt8.toNat_inj.1 hb0
        replace heq := Lib.hid (heq.out.trans (by rw [if_pos hbz]))
        replace hbz := Lib.hid hbz
        clear hb0
        go_wp2_with (first | ((with_reducible show wpList _ _ _ (⟨some 16, _, _, _, _, _⟩ :: _) _ _); refine wp_app1 tyB p1 hx hol.out rfl (.tmp 11) (.tmp 15) rfl rfl rfl ?_; intro v2 w2 k1 k2 k3) | ((with_reducible show wpList _ _ _ (⟨some 23, _, _, _, _, _⟩ :: _) _ _); refine wp_app1 tyB k1 hx255.out hol2.out rfl (.tmp 21) (.tmp 22) rfl rfl rfl ?_; intro v5 w5 m1 m2 m3))
        refine ⟨⟨k + 1, by omega, by go_num, ?_, (p2.trans k3 p3.size).trans m3 (Nat.le_trans p3.size k2.size), ?_⟩, by simp [intOf] <;> omega⟩
        · rw [heq.out]
          rw [hbz.out, List.append_assoc] at m1
          exact m1
        · have z2 := p3.then_ k2 (fun b hb h => p2.sub hb h)
          exact z2.then_ m2 (fun b hb h => (p2.trans k3 p3.size).sub hb h)
      · have hbb : ((b.toNat : Int) == 0) = false := by rw [beq_eq_false_iff_ne]; omega
        replace heq := Lib.hid (heq.out.trans (by rw [if_neg (fun h => hb0 (by rw [h]; rfl))]))
        clear hb0
        go_wp2_with (first | ((with_reducible show wpList _ _ _ (⟨some 16, _, _, _, _, _⟩ :: _) _ _); refine wp_app1 tyB p1 hx hol.out rfl (.tmp 11) (.tmp 15) rfl rfl rfl ?_; intro v2 w2 k1 k2 k3))
        refine ⟨⟨k + 1, by omega, by go_num, by rw [heq.out]; exact k1, p2.trans k3 p3.size, p3.then_ k2 (fun b hb h => p2.sub hb h)⟩, by simp [intOf] <;> omega⟩
    · have hbl : decide ((k : Int) < (s.length : Int)) = false := dfalseI (by omega)
      rw [List.take_of_length_le (by omega)] at p1
      go_wp2_with fail
      go_ret
      exact ⟨_, rfl, p1, p2, p3⟩

set_option maxHeartbeats 2000000 in
theorem refEscape_any {w : World} {s : List UInt8} (hn : 2 * s.length ≤ 100000000) :
    Calls Try.prog 36 #[sv s] w fun e w' => e = .returned (sv (escI s)) ∧ Ext w w' := by
  have hsz := sv_sizeI s
  go_enter Try.func36, Try.ntmps36
  go_wp2_with fail
  go_loopw [3, 4] (fun vo i wr => ∃ k : Nat, k ≤ s.length ∧ i = .int .i64 k ∧ Own wr 5 vo ((escI (s.take k)).map bv) ∧ Fresh w.heap.size vo ∧ Ext w wr) (fun _ i _ => s.length - (intOf i).toNat)
  case atStart => exact ⟨0, Nat.zero_le _, rfl, by simpa [escI] using Own.nil w 5, fresh_nil _ _ _, Mod.refl _ _⟩
  case round =>
    obtain ⟨k, hk, rfl, p1, p2, p3⟩ := hrel
    by_cases hlt : k < s.length
    · have hbl : decide ((k : Int) < (s.length : Int)) = true := dtrueI (by omega)
      obtain ⟨b, hbk⟩ : ∃ b, b = s[k] := ⟨_, rfl⟩
      have hg : ∀ h', (⟨s.toArray⟩ : ByteArray)[k]'h' = b := fun h' => (sv_getI s k hlt h').trans hbk.symm
      have hsn := escI_snoc s hlt
      rw [← hbk] at hsn
      replace hbk := Lib.hid hbk
      have hel := escI_len (s.take k)
      rw [List.length_take] at hel
      have hol : (escI (s.take k)).length + 1 ≤ 140737488355328 := by omega
      have hol2 : (escI (s.take k) ++ [b]).length + 1 ≤ 140737488355328 := by rw [List.length_append]; simp; omega
      clear hel
      have heq : escI (s.take (k + 1)) = escI (s.take k) ++ (if b = 0 then [0, 255] else [b]) := hsn
      clear hsn
      generalize escI (s.take k) = o at *
      replace heq := Lib.hid heq
      replace hol := Lib.hid hol
      replace hol2 := Lib.hid hol2
      have hx : (b.toNat : Int) = (b.toNat : Int) := rfl
      have hx255 := Lib.hid (show (255 : Int) = ((255 : UInt8).toNat : Int) from rfl)
      by_cases hb0 : b.toNat = 0
      · have hbb : ((b.toNat : Int) == 0) = true := by rw [hb0]; rfl
        have hbz : b = 0 := UInt8.toNat_inj.1 hb0
        replace heq := Lib.hid (heq.out.trans (by rw [if_pos hbz]))
        replace hbz := Lib.hid hbz
        clear hb0
        go_wp2_with (first | ((with_reducible show wpList _ _ _ (⟨some 16, _, _, _, _, _⟩ :: _) _ _); refine wp_app1 tyB p1 hx hol.out rfl (.tmp 11) (.tmp 15) rfl rfl rfl ?_; intro v2 w2 k1 k2 k3) | ((with_reducible show wpList _ _ _ (⟨some 23, _, _, _, _, _⟩ :: _) _ _); refine wp_app1 tyB k1 hx255.out hol2.out rfl (.tmp 21) (.tmp 22) rfl rfl rfl ?_; intro v5 w5 m1 m2 m3))
        have y2 := ext_app0 p3 p2 k2
        have f2 := k3.fresh p2 p3.size
        refine ⟨⟨k + 1, by omega, by go_num, ?_, m3.fresh f2 y2.size, ext_app0 y2 f2 m2⟩, by simp [intOf] <;> omega⟩
        rw [heq.out]
        rw [hbz.out, List.append_assoc] at m1
        exact m1
      · have hbb : ((b.toNat : Int) == 0) = false := by rw [beq_eq_false_iff_ne]; omega
        replace heq := Lib.hid (heq.out.trans (by rw [if_neg (fun h => hb0 (by rw [h]; rfl))]))
        clear hb0
        go_wp2_with ((with_reducible show wpList _ _ _ (⟨some 16, _, _, _, _, _⟩ :: _) _ _); refine wp_app1 tyB p1 hx hol.out rfl (.tmp 11) (.tmp 15) rfl rfl rfl ?_; intro v2 w2 k1 k2 k3)
        exact ⟨⟨k + 1, by omega, by go_num, by rw [heq.out]; exact k1, k3.fresh p2 p3.size, ext_app0 p3 p2 k2⟩, by simp [intOf] <;> omega⟩
    · have hbl : decide ((k : Int) < (s.length : Int)) = false := dfalseI (by omega)
      rw [List.take_of_length_le (by omega)] at p1
      have cv := run_conv (P := Try.prog) Try.underlying65 Try.underlying5 Try.underlying9 p1.sl
      go_wp2_with fail
      go_ret
      exact ⟨rfl, p3⟩
set_option maxHeartbeats 2000000 in
theorem Escape_any {w : World} {s : List UInt8} (hn : 2 * s.length ≤ 100000000) :
    Calls Try.prog 35 #[sv s] w fun e w' => e = .returned (sv (escI s)) ∧ Ext w w' := by
  have hc := escapeI_any (v := .slice none 0 0) (l := []) (s := s) (Own.nil w 5) (by simp; omega)
  go_enter Try.func35, Try.ntmps35
  go_wp2_with fail
  refine hc.mono ?_
  rintro e w1 ⟨v1, rfl, o1, n1, m1⟩
  rw [List.nil_append] at o1
  have cv := run_conv (P := Try.prog) Try.underlying65 Try.underlying5 Try.underlying9 o1.sl
  clear hc
  go_wp2_with fail
  go_ret
  exact ⟨rfl, m1.mono fun k _ h => by simp [own, Value.ownBlock] at h⟩
end Go.Proofs.Ytacmbomnjedbeaa
