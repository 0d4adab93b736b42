/- index: how keys begin. -/
import Derived.Test.YtacmbomnjedbeaaIxR
import Derived.Test.YtacmbomnjedbeaaIxQ
namespace Go.Proofs.Ytacmbomnjedbeaa
open Go.RowKit
set_option maxRecDepth 100000

def presB (t : List UInt8) : List UInt8 := [112] ++ t ++ [0]
def begB (c : UInt8) (t n : List UInt8) : List UInt8 := [c] ++ t ++ [0] ++ escI n ++ [0, 1]
set_option maxHeartbeats 2000000 in
theorem present_any {w : World} {t : List UInt8} (ht : t.length ≤ 1000000) :
    Calls Try.prog 41 #[sv t] w fun e w' => e = .returned (sv (presB t)) ∧ Ext w w' := by
  go_enter Try.func41, Try.ntmps41
  go_wp2_with fail
  go_ret
  exact ⟨rfl, Mod.refl _ _⟩
set_option maxHeartbeats 2000000 in
theorem refPresent_any {w : World} {t : List UInt8} (ht : t.length ≤ 1000000) :
    Calls Try.prog 25 #[sv t] w fun e w' => e = .returned (sv (presB t)) ∧ Ext w w' := by
  go_enter Try.func25, Try.ntmps25
  go_wp2_with fail
  go_ret
  exact ⟨rfl, Mod.refl _ _⟩
set_option maxHeartbeats 2000000 in
theorem equalI_any {w : World} {t s : List UInt8} (ht : t.length ≤ 1000000) (hn : 2 * s.length ≤ 100000000) :
    Calls Try.prog 15 #[sv t, sv s] w fun e w' => e = .returned (sv (begB 101 t s)) ∧ Ext w w' := by
  have hc := Escape_any (w := w) (s := s) hn
  have hel := escI_len s
  go_enter Try.func15, Try.ntmps15
  go_wp2_with fail
  refine hc.mono ?_
  rintro e w1 ⟨rfl, x1⟩
  go_wp2_with fail
  go_ret
  exact ⟨rfl, x1⟩
set_option maxHeartbeats 2000000 in
theorem gram_any {w : World} {t s : List UInt8} (ht : t.length ≤ 1000000) (hn : 2 * s.length ≤ 100000000) :
    Calls Try.prog 43 #[sv t, sv s] w fun e w' => e = .returned (sv (begB 103 t s)) ∧ Ext w w' := by
  have hc := Escape_any (w := w) (s := s) hn
  have hel := escI_len s
  go_enter Try.func43, Try.ntmps43
  go_wp2_with fail
  refine hc.mono ?_
  rintro e w1 ⟨rfl, x1⟩
  go_wp2_with fail
  go_ret
  exact ⟨rfl, x1⟩
set_option maxHeartbeats 2000000 in
theorem refEqual_any {w : World} {t s : List UInt8} (ht : t.length ≤ 1000000) (hn : 2 * s.length ≤ 100000000) :
    Calls Try.prog 46 #[sv t, sv s] w fun e w' => e = .returned (sv (begB 101 t s)) ∧ Ext w w' := by
  have hc := refEscape_any (w := w) (s := s) hn
  have hel := escI_len s
  go_enter Try.func46, Try.ntmps46
  go_wp2_with fail
  refine hc.mono ?_
  rintro e w1 ⟨rfl, x1⟩
  go_wp2_with fail
  go_ret
  exact ⟨rfl, x1⟩
set_option maxHeartbeats 2000000 in
theorem refGram_any {w : World} {t s : List UInt8} (ht : t.length ≤ 1000000) (hn : 2 * s.length ≤ 100000000) :
    Calls Try.prog 48 #[sv t, sv s] w fun e w' => e = .returned (sv (begB 103 t s)) ∧ Ext w w' := by
  have hc := refEscape_any (w := w) (s := s) hn
  have hel := escI_len s
  go_enter Try.func48, Try.ntmps48
  go_wp2_with fail
  refine hc.mono ?_
  rintro e w1 ⟨rfl, x1⟩
  go_wp2_with fail
  go_ret
  exact ⟨rfl, x1⟩

theorem grm3 {s : List UInt8} {k : Nat} (h : k + 3 ≤ s.length) : (s.drop k).take 3 = lx (s.getD k 0, s.getD (k + 1) 0, s.getD (k + 2) 0) := by
  have e : ∀ j (h : j < s.length), s.getD j 0 = s[j] := fun j hj => by simp [List.getD, List.getElem?_eq_getElem hj]
  rw [e k (by omega), e (k + 1) (by omega), e (k + 2) (by omega), List.drop_eq_getElem_cons (show k < s.length by omega), List.drop_eq_getElem_cons (show k + 1 < s.length by omega), List.drop_eq_getElem_cons (show k + 1 + 1 < s.length by omega)]
  rfl
theorem hcut (s : List UInt8) (k : Nat) : Value.string ((⟨s.toArray⟩ : ByteArray).extract k (k + 3)) = sv ((s.drop k).take 3) := by
  congr 1
  apply ByteArray.ext
  simp [ByteArray.data_extract]
def GIs (T : List T3) (L : Tx) : Prop := riseT L ∧ ∀ x, x ∈ L ↔ ∃ t ∈ T, x = lx t
theorem GIs.more {s : List UInt8} {k : Nat} {L L' : Tx} (h : GIs (grm s k) L) (hr : riseT L') (hm : ∀ x, x ∈ L' ↔ x ∈ L ∨ x = lx (s.getD k 0, s.getD (k + 1) 0, s.getD (k + 2) 0)) : GIs (grm s (k + 1)) L' := by
  refine ⟨hr, fun x => ?_⟩
  rw [hm, h.2, grm_succ]
  constructor
  · rintro (⟨t, t1, rfl⟩ | rfl)
    · exact ⟨t, List.mem_append_left _ t1, rfl⟩
    · exact ⟨_, List.mem_append_right _ (List.mem_singleton.2 rfl), rfl⟩
  · rintro ⟨t, t1, rfl⟩
    rcases List.mem_append.1 t1 with h | h
    · exact .inl ⟨t, h, rfl⟩
    · rw [List.mem_singleton.1 h]
      exact .inr rfl
set_option maxHeartbeats 4000000 in
theorem refGrams_any {w : World} {s : List UInt8} (hl : s.length ≤ 9000) :
    Calls Try.prog 47 #[sv s] w fun e w' => ∃ u L, e = .returned u ∧ Ts w' (fun k => w.heap.size ≤ k) u L ∧ GIs (grm s (s.length - 2)) L ∧ Ext w w' := by
  have hsz := sv_sizeI s
  go_enter Try.func47, Try.ntmps47
  go_wp2_with fail
  go_loopw [3, 4] (fun u i wr => ∃ (k : Nat) (L : Tx), k ≤ s.length - 2 ∧ i = .int .i64 k ∧ Ts wr (fun k => w.heap.size ≤ k) u L ∧ Hid (GIs (grm s k) L) ∧ L.length ≤ k ∧ Ext w wr) (fun _ i _ => s.length - (intOf i).toNat)
  case atStart => exact ⟨0, [], Nat.zero_le _, rfl, Sl.nil _ _, Lib.hid ⟨List.Pairwise.nil, by simp [grm]⟩, Nat.le_refl _, Mod.refl _ _⟩
  case round =>
    obtain ⟨k, L, hk, rfl, tL, hg, hkl, hx⟩ := hrel
    by_cases hlt : k < s.length - 2
    case neg =>
      have hbl : decide ((k : Int) + 3 ≤ (s.length : Int)) = false := dfalseI (by omega)
      obtain ⟨n, hn⟩ : ∃ n, n = s.length - 2 := ⟨_, rfl⟩
      obtain rfl : k = n := by omega
      replace hn := Lib.hid hn
      go_wp2_with fail
      go_ret
      exact ⟨_, L, rfl, tL, (by have := hg.out; rwa [hn.out] at this), hx⟩
    have hbl : decide ((k : Int) + 3 ≤ (s.length : Int)) = true := dtrueI (by omega)
    have hc := lay_any (s := (s.drop k).take 3) tL hg.out.1 (by omega)
    have h3 := Lib.hid (grm3 (s := s) (k := k) (by omega))
    have hi0 : (0 : Int) ≤ (k : Int) := by omega
    have hi1 : (k : Int) ≤ (k : Int) + 3 := by omega
    have hi2 : (k : Int) + 3 ≤ (s.length : Int) := by omega
    have hi3 : (0 : Int) ≤ (k : Int) + 3 := by omega
    have hcu := Lib.hid (hcut s k)
    go_wp2_with fail
    rw [hcu.out]
    refine hc.mono ?_
    rintro e w1 ⟨⟨u, rfl, L', t1, r1, m1, l1⟩, x1⟩
    rw [h3.out] at m1
    have hg1 := Lib.hid (hg.out.more r1 m1)
    replace t1 := t1.mono (T := fun k => w.heap.size ≤ k) (fun k _ h => h.elim id (fun h => Nat.le_trans hx.size h))
    clear r1 m1 h3 hcu hg
    go_wp2_with fail
    exact ⟨⟨k + 1, L', by omega, by go_num, t1, hg1, by omega, ext_trans hx x1⟩, by simp [intOf] <;> omega⟩

end Go.Proofs.Ytacmbomnjedbeaa
