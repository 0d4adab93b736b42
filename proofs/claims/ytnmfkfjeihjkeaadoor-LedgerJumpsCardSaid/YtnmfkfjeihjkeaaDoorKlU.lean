/- ledger: LedgerTorn. -/
import Derived.Test.YtnmfkfjeihjkeaaDoorKlT
namespace Go.Proofs.YtnmfkfjeihjkeaaDoor
open Go.RowKit Go.Maps Go.WideMaps
set_option maxRecDepth 100000

/-- Where the first k entries end. -/
def endsT (P : Tx) (k : Nat) : List Int := (List.range k).map fun j => ((logB 1 (P.take (j + 1))).length : Int)
theorem endsT_snoc (P : Tx) (k : Nat) : endsT P (k + 1) = endsT P k ++ [((logB 1 (P.take (k + 1))).length : Int)] := by
  unfold endsT
  rw [List.range_succ, List.map_append]
  rfl
theorem endsT_len (P : Tx) (k : Nat) : (endsT P k).length = k := by simp [endsT]
theorem endsT_get (P : Tx) (k j : Nat) (h : j < k) : (endsT P k)[j]? = some ((logB 1 (P.take (j + 1))).length : Int) := by
  unfold endsT
  rw [List.getElem?_map, List.getElem?_range h]
  rfl
theorem i64_and30 (a : Int) : bits .and .i64 a 1073741823 = a % 1073741824 := by
  show IntKind.i64.wrap (((BitVec.ofInt 64 a &&& BitVec.ofInt 64 1073741823).toNat : Nat) : Int) = _
  rw [BitVec.toNat_and, show (BitVec.ofInt 64 1073741823).toNat = 2 ^ 30 - 1 by decide, Nat.and_two_pow_sub_one_eq_mod, BitVec.toNat_ofInt]
  have : 0 ≤ a % 18446744073709551616 := Int.emod_nonneg _ (by omega)
  have h2 : ((a % ((2 ^ 64 : Nat) : Int)).toNat : Int) = a % 18446744073709551616 := by
    rw [Int.toNat_of_nonneg (by exact this)]; rfl
  have h3 : (((a % ((2 ^ 64 : Nat) : Int)).toNat % 2 ^ 30 : Nat) : Int) = a % 1073741824 := by
    rw [Int.natCast_emod, h2]; omega
  rw [h3, IntKind.wrap_i64]
  omega
section
variable {Y V : Nat → Prop} {w0 w wa : World} {g bd r B N i j : Nat} {F : Fn} {P : Tx} {b : List UInt8} {y : Value} {l : Lst}
theorem torn_step (H : Ky Y w0 w bd g 65536 (32 * j + tot (P.take j)) (1 + j) F ⟨[97], 0, [], P.take j, false⟩) (hlt : j < P.length) (hP : P.length ≤ 20) (ht : tot P ≤ 2000) (hN : Nib w0) (hY : ∀ k, Y k → k < w.heap.size) (hy : Bs w V y P[j]) (hV : ∀ k, V k → k < w0.heap.size) :
    Calls Tryd.prog 35 #[pv g, y] w fun e w' => (∃ u, e = .returned u) ∧ (∃ F', Ky Y w0 w' bd g 65536 (32 * (j + 1) + tot (P.take (j + 1))) (1 + (j + 1)) F' ⟨[97], 0, [], P.take (j + 1), false⟩) ∧ Mod (fun k => w0.heap.size ≤ k ∧ ¬ Y k) w w' := by
  have h1 := tot_snoc P j hlt
  have h2 := tot_le P (j + 1)
  have hl : (P.take j).length = j := by rw [List.length_take]; omega
  have e : (32 * j + tot (P.take j)) + (32 + P[j].length) = 32 * (j + 1) + tot (P.take (j + 1)) := by simp only [tot] at *; omega
  have := ky_append H hN hY hy hV (by simp only [tot] at *; omega) (by show 0 + (P.take j).length + 1 ≤ _; omega) (by show (P.take j).length + 1 ≤ _; omega) (by simp) (by simp only [tot] at *; omega) (by omega)
  rw [e, Nat.add_assoc] at this
  have e2 : lappL ⟨[97], 0, [], P.take j, false⟩ P[j] = ⟨[97], 0, [], P.take (j + 1), false⟩ := by rw [List.take_succ_eq_append_getElem hlt]; rfl
  rw [e2] at this
  exact this.mono fun e w' ⟨q1, q2, q3⟩ => ⟨⟨_, q1⟩, ⟨_, q2⟩, q3⟩
theorem torn_read (H : Ky Y w0 w bd g r B N F ⟨[97], 0, [], P.take j, false⟩) (hj : P.take j ≠ []) :
    Calls Tryd.prog 31 #[pv bd, sv [97, 45, 108, 111, 103]] w fun e w' => ∃ u, e = .returned (.tuple #[u, ev 0]) ∧ Own w' 5 u ((logB 1 (P.take j)).map bv) ∧ Fresh w.heap.size u ∧ Ext w w' := by
  obtain ⟨L, ⟨T, U, dv, ew, vs, h1, _⟩, h0, q2, q3, q4⟩ := H
  have := read_any h1 (logN [97]) (by simp [logN])
  have e : readD ⟨r, L, false, 0⟩ (logN [97]) = some (logB 1 (P.take j)) := by rw [q2.read]; exact q3.logOf hj
  rw [e, codeR_some, getD_some] at this
  exact this
theorem torn_len (H : Ky Y w0 w bd g r B N F ⟨[97], 0, [], P.take j, false⟩) (hj : P.take j ≠ []) : (logB 1 (P.take j)).length ≤ B := by
  obtain ⟨L, _, h0, q2, q3, q4⟩ := H
  exact q2.len (q3.logOf hj)
theorem torn_trunc (H : Ky Y w0 w bd g r B N F ⟨[97], 0, [], P, false⟩) (hP : P ≠ []) {q : Nat} (hq : q ≤ (logB 1 P).length) :
    Calls Tryd.prog 41 #[pv bd, sv [97, 45, 108, 111, 103], .int .i64 (q : Int)] w fun e w' => (∃ u, e = .returned u) ∧ (∃ L1, Hold w0 w' (pv bd) ⟨r, L1, false, 0⟩ ∧ HasL (updF F (logN [97]) (some ((logB 1 P).take q))) B (N + 1) L1) ∧ Mod (fun k => w0.heap.size ≤ k ∧ ¬ Y k) w w' := by
  have h0 := H.xt
  have q3 : On F [97] 0 [] P := by obtain ⟨_, _, _, _, h, _⟩ := H; exact h
  obtain ⟨L, h1, h2⟩ := H.disk
  obtain ⟨L1, e1, e2⟩ := torn_cut (r := r) q3 h2 hP (by simp) hq
  have hh := held_call (d' := ⟨r, L1, false, 0⟩) h1 (Mod.refl _ _) fun U hU hdk => by
    have := trunc_any hdk (logN [97]) (q : Int)
    rw [e1] at this
    exact this
  refine hh.mono fun e w' ⟨k1, k2, k3⟩ => ⟨⟨_, k1⟩, ⟨L1, k2.toHold h0 (fun k h => h.1), e2⟩, k3.mono fun k hk h => ?_⟩
  rcases h with h | h
  · exact h.1
  · omega
theorem torn_open {L1 : Fis} {k n : Nat} (H : Hold w0 w (pv bd) ⟨r, L1, false, 0⟩) (hL : HasL (updF F (logN [97]) (some ((logB 1 P).take k))) B N L1) (h : On F [97] 0 [] P) (hN : Nib w0) (hB : B ≤ 1000000) (hk : k ≤ (logB 1 P).length) (hn : n ≤ P.length) (h1 : (logB 1 (P.take n)).length ≤ k) (h2 : n < P.length → k < (logB 1 (P.take (n + 1))).length) (hPl : P.length ≤ 1000) (hP9 : ∀ p ∈ P, p.length ≤ 900000) :
    Calls Tryd.prog 34 #[pv bd, sv [97]] w fun e w' => ∃ g, e = .returned (.tuple #[pv g, ev 0]) ∧ ∃ F', Li w0 w' bd g r B (N + 1) F' ⟨[97], 0, [], P.take n, false⟩ := by
  obtain ⟨L', F', q1, q2, q3⟩ := torn_opens (r := r) h hL (by simp) hB hk hn h1 h2 hPl hP9
  exact (lh_open H hN (by simp) (by simp) q1).mono fun e w' ⟨g, k1, k2⟩ => ⟨g, k1, F', L', k2, q2, q3, rfl⟩
theorem li_at {m k : Nat} {x : List UInt8} (H : Li w0 w bd g r B N F l) (hk : k < l.es.length) (hi : m = l.base + 1 + k) (hx : l.es[k] = x) :
    Calls Tryd.prog 38 #[pv g, .int .i64 (m : Int)] w fun e w' => ∃ u, e = .returned (.tuple #[u, .int .i64 0]) ∧ Own w' 5 u (x.map bv) ∧ Fresh w.heap.size u ∧ Ext w w' := by
  subst hx
  obtain ⟨L, ⟨⟨T, U, dv, ew, vs, h1, h2, _⟩, _⟩, _⟩ := H
  exact at5_any h2 hk hi
theorem li_crash (H : Hi w0 w bd r B N F) (draw : Int) (hd : draw ≤ 9223372036854775807) :
    Calls Tryd.prog 22 #[pv bd, .int .i64 draw] w fun e w' => e = .returned (.tuple #[]) ∧ Hi w0 w' bd r B N F := by
  obtain ⟨L, h1, h2⟩ := H
  exact (hold_crash h1 draw hd (h2.crash draw)).mono fun e w' ⟨q1, q2⟩ => ⟨q1, L, q2, h2⟩
end
set_option maxHeartbeats 16000000 in
theorem torn_any {w : World} {v : Value} {P : Tx} {a : Int} (hv0 : Rw w (fun _ => True) v P) (hz : ∀ l ∈ P, l.length ≤ 140737488351232) (hz2 : P.length * 24 ≤ 140737488351232) (hN : Nib w) :
    Calls Tryd.prog 9 #[v, .int .i64 a] w fun e w' => e = .returned (.bool true) ∧ Ext w w' := by
  obtain ⟨A, c, vs, rfl, p1, p2, p3, p0, p5, p6⟩ := hv0.old.open_
  clear hv0
  by_cases hP1 : P.length < 1
  · have hd : decide ((P.length : Int) < 1) = true := dtrue (by omega)
    clear hz p5 p6
    go_enter Tryd.func9, Tryd.ntmps9
    go_wp2_with fail
    go_ret
    exact ⟨rfl, Mod.refl _ _⟩
  have hd : decide ((P.length : Int) < 1) = false := dfalse (by omega)
  by_cases hP2 : 20 < P.length
  · have hd : decide ((20 : Int) < (P.length : Int)) = true := dtrue (by omega)
    clear hz p5 p6
    go_enter Tryd.func9, Tryd.ntmps9
    go_wp2_with fail
    go_ret
    exact ⟨rfl, Mod.refl _ _⟩
  have hd2 : decide ((20 : Int) < (P.length : Int)) = false := dfalse (by omega)
  have hk4 := fun (w' : World) (x : Ext w w') => known5_any (hN.ext x)
  have kc := fun (w : World) (C : Array Value) (n c : Nat) => Lib.run_convert_bytes_const (P := Tryd.prog) w 32 5 C n c Tryd.underlying32 Tryd.underlying5
  go_enter Tryd.func9, Tryd.ntmps9
  go_wp2_with fail
  go_loop [5, 6] (fun q i => ∃ (j m : Nat), j ≤ P.length ∧ i = .int .i64 j ∧ q = .int .i64 m ∧ Hid (m = tot (P.take j)) ∧ m ≤ 2000 * j ∧ Hid (∀ p ∈ P.take j, p.length ≤ 2000)) (fun _ i => P.length - (intOf i).toNat)
  case atStart => exact ⟨0, 0, Nat.zero_le _, rfl, rfl, Lib.hid (by simp [tot]), by omega, Lib.hid (by simp)⟩
  case round =>
    obtain ⟨j, m, hj, rfl, rfl, hm, hmb, hall⟩ := hrel
    by_cases hlt : j < P.length
    · have hbl : decide ((j : Int) < (P.length : Int)) = true := dtrue (by omega)
      obtain ⟨ad, y, hA, hS, hc, hB⟩ := row_at p0 p5 p6 hlt
      subst hA
      obtain ⟨B, cc, rfl, j1, j2, j3, j4⟩ := hB.open_
      have hi0 : (0 : Int) ≤ (j : Int) := by omega
      have hi1 : (j : Int) < (P.length : Int) := by omega
      by_cases hbig : 2000 < P[j].length
      · have hb3 : decide ((2000 : Int) < (P[j].length : Int)) = true := dtrue (by omega)
        clear hm hall j4 p5 p6 hz
        generalize P[j].length = len at *
        go_wp2_with fail
        go_ret
        exact ⟨rfl, Mod.refl _ _⟩
      have hb3 : decide ((2000 : Int) < (P[j].length : Int)) = false := dfalse (by omega)
      have hsn := tot_snoc P j hlt
      have hall2 : Hid (∀ p ∈ P.take (j + 1), p.length ≤ 2000) := Lib.hid (fun p hp => by
        rw [List.take_succ_eq_append_getElem hlt, List.mem_append] at hp
        rcases hp with hp | hp
        · exact hall.out p hp
        · rw [List.mem_singleton.1 hp]; omega)
      have hst : Hid (m + P[j].length = tot (P.take (j + 1))) := Lib.hid (by have := hm.out; simp only [tot] at *; omega)
      have hlen : P[j].length ≤ 2000 := by omega
      clear hsn hm hall j4 p5 p6 hz hbig
      generalize P[j].length = len at *
      go_wp2_with fail
      exact ⟨⟨j + 1, m + len, by omega, by go_num, by congr 1, hst, by omega, hall2⟩, by simp [intOf] <;> omega⟩
    obtain rfl : j = P.length := by omega
    have hbl : decide ((P.length : Int) < (P.length : Int)) = false := dfalse (by omega)
    by_cases hbig : 2000 < m
    · have hb3 : decide ((2000 : Int) < (m : Int)) = true := dtrue (by omega)
      clear hm hall p5 p6 hz
      go_wp2_with fail
      go_ret
      exact ⟨rfl, Mod.refl _ _⟩
    have hb3 : decide ((2000 : Int) < (m : Int)) = false := dfalse (by omega)
    have htot : tot P ≤ 2000 := by have := hm.out; rw [List.take_length] at this; omega
    replace hall := hall.out
    rw [List.take_length] at hall
    replace hall := Lib.hid hall
    clear hm hmb hbig hlt hj
    go_wp2_with fail
    refine (new_hold (w0 := w) 65536 (by omega) (by omega) (Mod.refl _ _)).mono ?_
    rintro e w1 ⟨bd, rfl, H1⟩
    have hc := li_open (w0 := w) (p := [97]) (r := 65536) (bd := bd) ⟨[], H1, HasL.nil 0 0⟩ hN (On.none [97]) (by simp) (by simp) (by simp) (by simp) (by simp)
    clear H1
    go_wp2_with fail
    refine hc.mono ?_
    rintro e w2 ⟨g, rfl, H2⟩
    clear hc
    go_wp2_with fail
    have K0 : Ky (own (.slice none 0 0)) w w2 bd g 65536 (32 * 0 + tot (P.take 0)) (1 + 0) (fun _ => none) ⟨[97], 0, [], P.take 0, false⟩ := H2.beside.turn (Mod.refl _ _) (fun k hk _ => by cases hk) (fun k h => h.elim)
    clear H2
    go_loopw [11, 12] (fun u i wr => ∃ (j : Nat) (F : Fn), j ≤ P.length ∧ i = .int .i64 j ∧ Own wr 3 u ((endsT P j).map iv) ∧ Fresh w.heap.size u ∧ Ky (own u) w wr bd g 65536 (32 * j + tot (P.take j)) (1 + j) F ⟨[97], 0, [], P.take j, false⟩) (fun _ i _ => P.length - (intOf i).toNat)
    case atStart => exact ⟨0, _, Nat.zero_le _, rfl, Own.nil _ _, fresh_nil _ _ _, K0⟩
    case round =>
      clear K0
      obtain ⟨j, F, hj, rfl, hown, hf, H⟩ := hrel
      by_cases hlt : j < P.length
      · have hbl2 : decide ((j : Int) < (P.length : Int)) = true := dtrue (by omega)
        obtain ⟨ad, y, hA, hc, hB⟩ := row_now p0 p5 p6 H.xt (fun _ _ _ h => h) hlt
        have hcs := torn_step H hlt (by omega) htot hN (fun k hk => hown.lt hk) (hB.mod H.xt (fun _ _ _ h => h)) (fun k hk => hk)
        obtain ⟨B, cc, rfl, j1, j2, j3, j4⟩ := hB.open_
        subst hA
        have hi0 : (0 : Int) ≤ (j : Int) := by omega
        have hi1 : (j : Int) < (P.length : Int) := by omega
        have hne : P.take (j + 1) ≠ [] := by
          intro h
          have := congrArg List.length h
          rw [List.length_take, List.length_nil] at this
          omega
        have hes := endsT_snoc P j
        have hel := endsT_len P j
        obtain ⟨A8, c8, rfl⟩ := hown.shape
        simp only [List.length_map] at hown hf hcs ⊢
        rw [hel] at hown hf hcs ⊢
        have hj20 : j ≤ 20 := by omega
        clear j4 p5 p6 hz hB H hall
        generalize P[j].length = len at *
        replace hes := Lib.hid hes
        replace hel := Lib.hid hel
        go_wp2_with fail
        refine hcs.mono ?_
        rintro e w3 ⟨⟨u3, rfl⟩, ⟨F', H3⟩, m3⟩
        have hown3 := hown.mod m3 (fun k hk h => h.2 hk)
        have hcr := torn_read H3 hne
        have hnb := torn_len H3 hne
        have htk := tot_le P (j + 1)
        have hx3 := H3.xt
        clear hcs hown m3 hne
        go_wp2_with fail
        refine hcr.mono ?_
        rintro e w4 ⟨u4, rfl, o4, f4, x4⟩
        have H4 := H3.ext x4
        have hown4 := hown3.mod x4 (fun _ _ h => h)
        obtain ⟨A4, c4, rfl⟩ := o4.shape
        obtain ⟨nx, hnx⟩ : ∃ n, n = (logB 1 (P.take (j + 1))).length := ⟨_, rfl⟩
        simp only [List.length_map] at ⊢
        rw [← hnx] at hes hnb ⊢
        have hnx9 : nx ≤ 1000000 := by simp only [tot] at htot hnb; omega
        have hn2 : (((endsT P j).map iv).length + ([iv (nx : Int)] : List Value).length) * 8 ≤ 140737488355328 := by rw [List.length_map, hel.out]; simp; omega
        have ho := one_ok (iv (nx : Int)) rfl
        replace hn2 := Lib.hid hn2
        replace hnx := Lib.hid hnx
        clear hcr o4 f4 H3 hown3 hnb htk x4
        go_wp2_with (first
          | ((with_reducible show wpList _ _ _ (⟨some 90, _, _, _, _, _⟩ :: _) _ _); refine wp_app tyI (hown4.alloc _) (Sl.one w4 3 (iv (nx : Int))) ho rfl (.tmp 86) (.tmp 89) rfl rfl rfl hn2.out ?_; intro v5 w5 r1 r2 r3))
        case roundEnd =>
          exact ⟨⟨j + 1, F', by omega, by go_num, by rw [hes.out, List.map_append]; exact r1, (r3.sooner (B' := w4.heap.size) (by simp)).fresh hf H4.xt.size, (H4.ext ((Mod.refl _ _).alloc _)).turn r2 (fun k hk hlt => r3.sub hlt hk) (fun k hk => hf k hk)⟩, by simp [intOf] <;> omega⟩
      · obtain rfl : j = P.length := by omega
        have hPne : P ≠ [] := fun h => by rw [h] at hP1; simp at hP1
        have hnb := torn_len H (by rw [List.take_length]; exact hPne)
        rw [List.take_length] at H hnb
        have hOn : On F [97] 0 [] P := by obtain ⟨_, _, _, _, h, _⟩ := H; exact h
        have hx := H.xt
        have hel := endsT_len P P.length
        have hand := i64_and30 a
        have ha0 : 0 ≤ a % 1073741824 := Int.emod_nonneg _ (by omega)
        have ha1 : a % 1073741824 < 1073741824 := Int.emod_lt_of_pos _ (by omega)
        obtain ⟨r, hr⟩ : ∃ r : Nat, a % 1073741824 = (r : Int) := Int.eq_ofNat_of_zero_le ha0
        rw [hr] at hand ha0 ha1
        clear hr
        have hP9 : ∀ p ∈ P, p.length ≤ 900000 := fun p hp => by have := hall.out p hp; omega
        obtain ⟨nl, hnl⟩ : ∃ n, n = (logB 1 P).length := ⟨_, rfl⟩
        have hnl9 : nl ≤ 3000 := by rw [hnl]; simp only [tot] at hnb htot; omega
        obtain ⟨q, hq⟩ : ∃ q, q = r % (nl + 1) := ⟨_, rfl⟩
        have hql : q < nl + 1 := by rw [hq]; exact Nat.mod_lt _ (by omega)
        have hmod2 : Int.tmod (r : Int) ((nl : Int) + 1) = (q : Int) := by rw [hq]; rfl
        have hmod : (r : Int) % ((nl : Int) + 1) = (q : Int) := by rw [hq]; rfl
        have hb3 : ((nl : Int) + 1 == 0) = false := by rw [beq_eq_false_iff_ne]; omega
        have hct := torn_trunc H hPne (q := q) (by rw [← hnl]; omega)
        have hP1' : 1 ≤ P.length := by omega
        obtain ⟨A8, c8, rfl⟩ := hown.shape
        simp only [List.length_map] at hown hf hct ⊢
        rw [hel] at hown hf hct ⊢
        have hE : ∀ {wx : World}, Own wx 3 (.slice A8 P.length c8) ((endsT P P.length).map iv) → ∀ k : Nat, k < P.length → ∃ ad, A8 = some ad ∧ wx.cell? (ad.add k) = some (.int .i64 ((logB 1 (P.take (k + 1))).length : Int)) := fun {wx} ho k hk => by
          obtain ⟨A', c', e', _, _, _, hcs⟩ := ho.sl
          injection e' with e'
          obtain ⟨ad, h1, _, h3⟩ := hcs k (iv ((logB 1 (P.take (k + 1))).length : Int)) (by rw [List.getElem?_map, endsT_get P P.length k hk]; rfl)
          exact ⟨ad, e'.trans h1, h3⟩
        obtain ⟨ade, rfl, hce⟩ := hE hown (P.length - 1) (by omega)
        rw [Nat.sub_add_cancel hP1', List.take_length, ← hnl] at hce
        have hi0 : (0 : Int) ≤ (P.length : Int) - 1 := by omega
        have hi1 : (P.length : Int) - 1 < (P.length : Int) := by omega
        clear hq ha0 ha1 hlt hj hel
        replace hall := Lib.hid hP9
        replace hnl := Lib.hid hnl
        go_wp2_with fail
        refine hct.mono ?_
        rintro e w3 ⟨⟨u3, rfl⟩, ⟨L1, H3, hL3⟩, m3⟩
        have hown3 := hown.mod m3 (fun k hk h => h.2 hk)
        have hce3 : ∀ k, k < P.length → w3.cell? (ade.add k) = some (.int .i64 ((logB 1 (P.take (k + 1))).length : Int)) := fun k hk => by
          obtain ⟨ad, h1, h2⟩ := hE hown3 k hk
          injection h1 with h1
          rw [h1]
          exact h2
        replace hce3 := Lib.hid hce3
        have hqn : q ≤ (logB 1 P).length := by rw [← hnl.out]; omega
        simp only [tot] at htot hnb
        have hBq : 32 * P.length + (P.map List.length).sum ≤ 1000000 := by omega
        replace hnb := Lib.hid hqn
        clear hct H hown hf hE hce m3 hmod hmod2 hb3 hand hown3 hqn
        go_wp2_with fail
        go_loop [16] (fun i => ∃ n : Nat, n ≤ P.length ∧ i = .int .i64 n ∧ Hid ((logB 1 (P.take n)).length ≤ q)) (fun i => P.length - (intOf i).toNat)
        case atStart => exact ⟨0, Nat.zero_le _, rfl, Lib.hid (by simp [logB, numd, frecs])⟩
        case round =>
          obtain ⟨n, hn, rfl, hnq⟩ := hrel
          have hor : (n < P.length ∧ (logB 1 (P.take (n + 1))).length ≤ q) ∨ ((n < P.length ∧ q < (logB 1 (P.take (n + 1))).length) ∨ n = P.length) := by omega
          rcases hor with ⟨hnl2, hgo⟩ | hstop
          · have hcell := hce3.out n hnl2
            have hni : (n : Int) < (P.length : Int) := by omega
            have hgh : Hid ((logB 1 (P.take (n + 1))).length ≤ q) := Lib.hid hgo
            obtain ⟨fx, hfx⟩ : ∃ fx, fx = (logB 1 (P.take (n + 1))).length := ⟨_, rfl⟩
            rw [← hfx] at hcell hgo
            replace hfx := Lib.hid hfx
            go_wp2_with fail
            exact ⟨⟨n + 1, by omega, by go_num, hgh⟩, by simp [intOf] <;> omega⟩
          have hop := torn_open H3 hL3 hOn hN hBq hnb.out hn hnq.out (fun h => by omega) (by omega) hP9
          have hcl := fun (wx : World) (g : Nat) (F : Fn) (H : Li w wx bd g 65536 (32 * P.length + (P.map List.length).sum) (1 + P.length + 1 + 1) F ⟨[97], 0, [], P.take n, false⟩) => li_lastE (m := n) H (by show 0 + (P.take n).length = n; rw [List.length_take]; omega)
          rcases hstop with ⟨hnl2, hgo⟩ | hend
          case' inl =>
            have hcell := hce3.out n hnl2
            have hni : (n : Int) < (P.length : Int) := by omega
            obtain ⟨fx, hfx⟩ : ∃ fx, fx = (logB 1 (P.take (n + 1))).length := ⟨_, rfl⟩
            rw [← hfx] at hcell hgo
            replace hfx := Lib.hid hfx
            clear H3 hL3 hnq
            go_wp2_with fail
          case' inr =>
            have hni : decide (n < P.length) = false := decide_eq_false (by omega)
            clear H3 hL3 hnq hend
            go_wp2_with fail
          all_goals
            refine hop.mono ?_
            rintro e w4 ⟨g4, rfl, F4, H4⟩
            have hc4 := hcl w4 g4 F4 H4
            have hnn : ((n : Int) != (n : Int)) = false := by simp
            clear hop hcl hce3 hni
            go_wp2_with fail
            refine hc4.mono ?_
            rintro e w5 ⟨rfl, k5, hw5⟩
            have H5 := H4.ext (by rw [hw5]; exact (Mod.refl _ w4).drewN k5 : Ext w4 w5)
            clear hc4 H4 hw5
            go_wp2_with fail
            go_loopw [18] (fun v wr => ∃ i : Nat, 1 ≤ i ∧ i ≤ n + 1 ∧ v = .int .i64 i ∧ Ext w5 wr) (fun v _ => n + 1 - (intOf v).toNat)
            case atStart => exact ⟨1, Nat.le_refl _, by omega, rfl, Mod.refl _ _⟩
            case round =>
              obtain ⟨i, hi1', hin, rfl, xr⟩ := hrel
              by_cases hgo2 : i ≤ n
              · have hbi : decide ((i : Int) ≤ (n : Int)) = true := dtrue (by omega)
                have hil : i - 1 < P.length := by omega
                have hca := li_at (m := i) (k := i - 1) (x := P[i - 1]) (H5.ext xr) (by show i - 1 < (P.take n).length; rw [List.length_take]; omega) (by show i = 0 + 1 + (i - 1); omega) (by simp)
                have H5w := H5.xt
                clear H5
                go_wp2_with fail
                refine hca.mono ?_
                rintro e w6 ⟨u6, rfl, o6, f6, x6⟩
                have hx6 := ext_trans H5w (ext_trans xr x6)
                obtain ⟨adr, y, hA, hcR, hB⟩ := row_now p0 p5 p6 hx6 (fun _ _ _ h => h) hil
                have hB6 := hB.mod hx6 (fun _ _ _ h => h)
                obtain ⟨B, cc, rfl, j1, j2, j3, j4⟩ := hB.open_
                subst hA
                have hcv1 := fun k => run_conv (P := Tryd.prog) (src := 32) (dst := 9) (e := 5) Tryd.underlying32 Tryd.underlying5 Tryd.underlying9 (o6.sl.drewN k)
                have hcv2 := fun k => run_conv (P := Tryd.prog) (src := 32) (dst := 9) (e := 5) Tryd.underlying32 Tryd.underlying5 Tryd.underlying9 (hB6.drewN k)
                have hx56 := ext_trans xr x6
                have hi0 : (0 : Int) ≤ (i : Int) - 1 := by omega
                have hi1 : (i : Int) - 1 < (P.length : Int) := by omega
                clear hca o6 f6 x6 hB hB6 j4 p5 p6 xr hz
                generalize P[i - 1] = x at *
                generalize x.length = xl at *
                go_wp2_with fail
                go_quiet (fail)
                go_wp2_with fail
                exact ⟨⟨i + 1, by omega, by omega, by go_num, hx56.drewN _⟩, by simp [intOf] <;> omega⟩
              · have hbi : decide ((i : Int) ≤ (n : Int)) = false := dfalse (by omega)
                have H6 := H5.ext xr
                have hlt9 : (P.take n).length = n := by rw [List.length_take]; omega
                have hon : On F4 [97] 0 [] (P.take n) := by obtain ⟨_, _, _, h, _⟩ := H6; exact h
                have hca := lit_app (m := n + 1) (l' := ⟨[97], 0, [], P.take n ++ [[110, 101, 120, 116]], false⟩) H6 hN [110, 101, 120, 116] (4, 5) (by show 0 + (P.take n).length + 1 = n + 1; omega) rfl (by simp) (by omega) (by show (P.take n).length + 1 ≤ _; omega) (by simp) (by simp only [tot, List.length_cons, List.length_nil]; omega) (by omega)
                clear H5 H6 xr p5 p6 hz hbi
                go_wp2_with fail
                refine hca.mono ?_
                rintro e w7 ⟨rfl, H7⟩
                have hon7 : On (layF F4 ⟨[97], 0, [], P.take n, false⟩ [110, 101, 120, 116]) [97] 0 [] (P.take n ++ [[110, 101, 120, 116]]) := by obtain ⟨_, _, _, h, _⟩ := H7; exact h
                have hcc := li_crash H7.hi 0 (by decide)
                clear hca H7
                go_wp2_with fail
                refine hcc.mono ?_
                rintro e w8 ⟨rfl, H8⟩
                have hco := li_open H8 hN hon7 (by simp) (by simp) (by simp only [tot, List.length_cons, List.length_nil]; omega) (by rw [List.length_append, hlt9]; simp; omega) (by rw [List.length_append, hlt9]; simp; omega)
                clear hcc H8
                go_wp2_with fail
                refine hco.mono ?_
                rintro e w9 ⟨g9, rfl, H9⟩
                have hcl9 := li_lastE (m := n + 1) H9 (by show 0 + (P.take n ++ [[110, 101, 120, 116]]).length = n + 1; rw [List.length_append, hlt9]; simp)
                have hx9 := H9.xt
                clear hco H9 hlt9 hon hon7
                go_wp2_with fail
                refine hcl9.mono ?_
                rintro e w10 ⟨rfl, k10, hw10⟩
                have hx10 : Ext w w10 := by rw [hw10]; exact hx9.drewN k10
                have hkk := hk4 w10 hx10
                clear hcl9 hx9 hw10 hk4
                go_wp2_with fail
                refine hkk.mono ?_
                rintro e w11 ⟨rfl, x11⟩
                go_wp2_with fail
                go_ret
                exact ⟨rfl, ext_trans hx10 x11⟩
end Go.Proofs.YtnmfkfjeihjkeaaDoor
