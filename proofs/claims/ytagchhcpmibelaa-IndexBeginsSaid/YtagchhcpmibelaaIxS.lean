/- index: how keys begin. -/
import Derived.Test.YtagchhcpmibelaaIxR
import Derived.Test.YtagchhcpmibelaaIxQ
namespace Go.Proofs.Ytagchhcpmibelaa
open Go.RowKit
set_option maxRecDepth 100000

def presB (t : List UInt8) : List UInt8 := [112] ++ t ++ [0]
def begB (c : UInt8) (t n : List UInt8) : List UInt8 := [c] ++ t ++ [0] ++ escB n ++ [0, 1]
set_option maxHeartbeats 2000000 in
theorem present_any {w : World} {t : List UInt8} (ht : t.length ≤ 1000000) :
    Calls Try.prog 32 #[sv t] w fun e w' => e = .returned (sv (presB t)) ∧ Ext w w' := by
  go_enter Try.func32, Try.ntmps32
  go_wp2_with fail
  go_ret
  exact ⟨rfl, Mod.refl _ _⟩
set_option maxHeartbeats 2000000 in
theorem refPresent_any {w : World} {t : List UInt8} (ht : t.length ≤ 1000000) :
    Calls Try.prog 33 #[sv t] w fun e w' => e = .returned (sv (presB t)) ∧ Ext w w' := by
  go_enter Try.func33, Try.ntmps33
  go_wp2_with fail
  go_ret
  exact ⟨rfl, Mod.refl _ _⟩
set_option maxHeartbeats 2000000 in
theorem equal_any {w : World} {t s : List UInt8} (ht : t.length ≤ 1000000) (hn : 2 * s.length ≤ 100000000) :
    Calls Try.prog 34 #[sv t, sv s] w fun e w' => e = .returned (sv (begB 101 t s)) ∧ Ext w w' := by
  have hc := Escape_any (w := w) (s := s) hn
  have hel := escB_len s
  go_enter Try.func34, Try.ntmps34
  go_wp2_with fail
  refine hc.mono ?_
  rintro e w1 ⟨rfl, x1⟩
  go_wp2_with fail
  go_ret
  exact ⟨rfl, x1⟩
set_option maxHeartbeats 2000000 in
theorem gram_any {w : World} {t s : List UInt8} (ht : t.length ≤ 1000000) (hn : 2 * s.length ≤ 100000000) :
    Calls Try.prog 36 #[sv t, sv s] w fun e w' => e = .returned (sv (begB 103 t s)) ∧ Ext w w' := by
  have hc := Escape_any (w := w) (s := s) hn
  have hel := escB_len s
  go_enter Try.func36, Try.ntmps36
  go_wp2_with fail
  refine hc.mono ?_
  rintro e w1 ⟨rfl, x1⟩
  go_wp2_with fail
  go_ret
  exact ⟨rfl, x1⟩
set_option maxHeartbeats 2000000 in
theorem refEqual_any {w : World} {t s : List UInt8} (ht : t.length ≤ 1000000) (hn : 2 * s.length ≤ 100000000) :
    Calls Try.prog 35 #[sv t, sv s] w fun e w' => e = .returned (sv (begB 101 t s)) ∧ Ext w w' := by
  have hc := refEscape_any (w := w) (s := s) hn
  have hel := escB_len s
  go_enter Try.func35, Try.ntmps35
  go_wp2_with fail
  refine hc.mono ?_
  rintro e w1 ⟨rfl, x1⟩
  go_wp2_with fail
  go_ret
  exact ⟨rfl, x1⟩
set_option maxHeartbeats 2000000 in
theorem refGram_any {w : World} {t s : List UInt8} (ht : t.length ≤ 1000000) (hn : 2 * s.length ≤ 100000000) :
    Calls Try.prog 37 #[sv t, sv s] w fun e w' => e = .returned (sv (begB 103 t s)) ∧ Ext w w' := by
  have hc := refEscape_any (w := w) (s := s) hn
  have hel := escB_len s
  go_enter Try.func37, Try.ntmps37
  go_wp2_with fail
  refine hc.mono ?_
  rintro e w1 ⟨rfl, x1⟩
  go_wp2_with fail
  go_ret
  exact ⟨rfl, x1⟩

theorem grm3 {s : List UInt8} {k : Nat} (h : k + 3 ≤ s.length) : (s.drop k).take 3 = lx (s.getD k 0, s.getD (k + 1) 0, s.getD (k + 2) 0) := by
  have e : ∀ j (h : j < s.length), s.getD j 0 = s[j] := fun j hj => by simp [List.getD, List.getElem?_eq_getElem hj]
  rw [e k (by omega), e (k + 1) (by omega), e (k + 2) (by omega), List.drop_eq_getElem_cons (show k < s.length by omega), List.drop_eq_getElem_cons (show k + 1 < s.length by omega), List.drop_eq_getElem_cons (show k + 1 + 1 < s.length by omega)]
  rfl
theorem hcut (s : List UInt8) (k : Nat) : Value.string ((⟨s.toArray⟩ : ByteArray).extract k (k + 3)) = sv ((s.drop k).take 3) := by
  congr 1
  apply ByteArray.ext
  simp [ByteArray.data_extract]
def GIs (T : List T3) (L : Tx) : Prop := riseT L ∧ ∀ x, x ∈ L ↔ ∃ t ∈ T, x = lx t
theorem GIs.more {s : List UInt8} {k : Nat} {L L' : Tx} (h : GIs (grm s k) L) (hr : riseT L') (hm : ∀ x, x ∈ L' ↔ x ∈ L ∨ x = lx (s.getD k 0, s.getD (k + 1) 0, s.getD (k + 2) 0)) : GIs (grm s (k + 1)) L' := by
  refine ⟨hr, fun x => ?_⟩
  rw [hm, h.2, grm_succ]
  constructor
  · rintro (⟨t, t1, rfl⟩ | rfl)
    · exact ⟨t, List.mem_append_left _ t1, rfl⟩
    · exact ⟨_, List.mem_append_right _ (List.mem_singleton.2 rfl), rfl⟩
  · rintro ⟨t, t1, rfl⟩
    rcases List.mem_append.1 t1 with h | h
    · exact .inl ⟨t, h, rfl⟩
    · rw [List.mem_singleton.1 h]
      exact .inr rfl
set_option maxHeartbeats 4000000 in
theorem refGrams_any {w : World} {s : List UInt8} (hl : s.length ≤ 9000) :
    Calls Try.prog 40 #[sv s] w fun e w' => ∃ u L, e = .returned u ∧ Ts w' (fun _ => True) u L ∧ GIs (grm s (s.length - 2)) L ∧ Ext w w' := by
  have hsz := sv_size s
  go_enter Try.func40, Try.ntmps40
  go_wp2_with fail
  go_loopw [3, 4] (fun u i wr => ∃ (k : Nat) (L : Tx), k ≤ s.length - 2 ∧ i = .int .i64 k ∧ Ts wr (fun _ => True) u L ∧ Hid (GIs (grm s k) L) ∧ L.length ≤ k ∧ Ext w wr) (fun _ i _ => s.length - (intOf i).toNat)
  case atStart => exact ⟨0, [], Nat.zero_le _, rfl, Sl.nil _ _, Lib.hid ⟨List.Pairwise.nil, by simp [grm]⟩, Nat.le_refl _, Mod.refl _ _⟩
  case round =>
    obtain ⟨k, L, hk, rfl, tL, hg, hkl, hx⟩ := hrel
    by_cases hlt : k < s.length - 2
    case neg =>
      have hbl : decide ((k : Int) + 3 ≤ (s.length : Int)) = false := dfalse (by omega)
      obtain ⟨n, hn⟩ : ∃ n, n = s.length - 2 := ⟨_, rfl⟩
      obtain rfl : k = n := by omega
      replace hn := Lib.hid hn
      go_wp2_with fail
      go_ret
      exact ⟨_, L, rfl, tL, (by have := hg.out; rwa [hn.out] at this), hx⟩
    have hbl : decide ((k : Int) + 3 ≤ (s.length : Int)) = true := dtrue (by omega)
    have hc := lay_any (s := (s.drop k).take 3) tL hg.out.1 (by omega)
    have h3 := Lib.hid (grm3 (s := s) (k := k) (by omega))
    have hi0 : (0 : Int) ≤ (k : Int) := by omega
    have hi1 : (k : Int) ≤ (k : Int) + 3 := by omega
    have hi2 : (k : Int) + 3 ≤ (s.length : Int) := by omega
    have hi3 : (0 : Int) ≤ (k : Int) + 3 := by omega
    have hcu := Lib.hid (hcut s k)
    go_wp2_with fail
    rw [hcu.out]
    refine hc.mono ?_
    rintro e w1 ⟨⟨u, rfl, L', t1, r1, m1, l1⟩, x1⟩
    rw [h3.out] at m1
    have hg1 := Lib.hid (hg.out.more r1 m1)
    clear r1 m1 h3 hcu hg
    go_wp2_with fail
    exact ⟨⟨k + 1, L', by omega, by go_num, t1, hg1, by omega, ext_trans hx x1⟩, by simp [intOf] <;> omega⟩

set_option maxHeartbeats 8000000 in
theorem begins_any {w : World} {t s : List UInt8} (ht : t.length ≤ 140737488351232) (hs : s.length ≤ 140737488351232) :
    Calls Try.prog 10 #[sv t, sv s] w fun e w' => e = .returned (.bool true) ∧ Ext w w' := by
  have hsz := sv_size s
  have hst := sv_size t
  by_cases hle : t.length + s.length ≤ 600
  case neg =>
    have hb : decide ((600 : Int) < (t.length : Int) + (s.length : Int)) = true := dtrue (by omega)
    go_enter Try.func10, Try.ntmps10
    go_wp2_with fail
    go_ret
    exact ⟨rfl, Mod.refl _ _⟩
  have hb : decide ((600 : Int) < (t.length : Int) + (s.length : Int)) = false := dfalse (by omega)
  have c1 := fun wx => present_any (w := wx) (t := t) (by omega)
  have c2 := fun wx => refPresent_any (w := wx) (t := t) (by omega)
  have c3 := fun wx => equal_any (w := wx) (t := t) (s := s) (by omega) (by omega)
  have c4 := fun wx => refEqual_any (w := wx) (t := t) (s := s) (by omega) (by omega)
  have c5 := fun wx => gram_any (w := wx) (t := t) (s := s) (by omega) (by omega)
  have c6 := fun wx => refGram_any (w := wx) (t := t) (s := s) (by omega) (by omega)
  have c7 := fun wx => grams_any sortT_holds (w := wx) s (by omega)
  have c8 := fun wx => refGrams_any (w := wx) (s := s) (by omega)
  generalize presB t = x1 at *
  generalize begB 101 t s = x2 at *
  generalize begB 103 t s = x3 at *
  go_enter Try.func10, Try.ntmps10
  go_wp2_with fail
  refine (c1 _).mono ?_
  rintro e w1 ⟨rfl, z1⟩
  go_wp2_with fail
  refine (c2 _).mono ?_
  rintro e w2 ⟨rfl, z2⟩
  replace z2 := ext_trans z1 z2
  clear c1 c2 z1
  go_wp2_with fail
  refine (c3 _).mono ?_
  rintro e w3 ⟨rfl, z3⟩
  replace z3 := ext_trans z2 z3
  go_wp2_with fail
  refine (c4 _).mono ?_
  rintro e w4 ⟨rfl, z4⟩
  replace z4 := ext_trans z3 z4
  clear c3 c4 z2 z3
  go_wp2_with fail
  refine (c5 _).mono ?_
  rintro e w5 ⟨rfl, z5⟩
  replace z5 := ext_trans z4 z5
  go_wp2_with fail
  refine (c6 _).mono ?_
  rintro e w6 ⟨rfl, z6⟩
  replace z6 := ext_trans z5 z6
  clear c5 c6 z4 z5
  go_wp2_with fail
  refine (c7 _).mono ?_
  rintro e w7 ⟨u, G, rfl, oG, fG, gG, z7⟩
  replace z7 := ext_trans z6 z7
  replace gG := Lib.hid gG
  go_wp2_with fail
  refine (c8 _).mono ?_
  rintro e w8 ⟨v, L, rfl, tL, gL, y8⟩
  have z8 := ext_trans z7 y8
  have hGL : G = L := riseT_ext gG.out.1 gL.1 fun x => by rw [gG.out.2, gL.2]
  subst hGL
  have hc := texts21_any (oG.sl.mod y8 (fun _ _ _ h => h)) tL
  rw [dtrue rfl] at hc
  clear c7 c8 z6 z7 y8 oG tL gL gG fG
  go_wp2_with fail
  refine hc.mono ?_
  rintro e w9 ⟨rfl, z9⟩
  replace z9 := ext_trans z8 z9
  clear hc
  go_wp2_with fail
  refine (known21_holds _).mono ?_
  rintro e w10 ⟨rfl, z10⟩
  replace z10 := ext_trans z9 z10
  go_wp2_with fail
  go_ret
  exact ⟨rfl, z10⟩
end Go.Proofs.Ytagchhcpmibelaa
