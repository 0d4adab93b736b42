/- mem: the law Turns. -/
import Derived.Test.YtlfooppmdgddkaaMemJ
namespace Go.Proofs.Ytlfooppmdgddkaa
open Go.RowKit Go.ChangeShapes
set_option maxRecDepth 100000

/-- No two are of one key and number. -/
def Apart (L : List Ce) : Prop := ∀ i j (hi : i < L.length) (hj : j < L.length), i < j → ¬ (L[i].key = L[j].key ∧ L[i].seq = L[j].seq)
/-- What of some cells may be, in order. -/
def SetOf (M l : List Ce) : Prop := sortedC M ∧ ∀ c, c ∈ M ↔ c ∈ l ∧ isC c
theorem SetOf.put {M l : List Ce} {x : Ce} (h : SetOf M l) (hx : ∀ c ∈ l, ¬ (c.key = x.key ∧ c.seq = x.seq)) (l' : List Ce) (hl : ∀ c, c ∈ l' ↔ c ∈ l ∨ c = x) : SetOf (putL M x).2 l' ∧ (putL M x).2.length ≤ M.length + 1 := by
  have hno : ¬ hasC M x := by
    rintro ⟨d, hd, hk⟩
    exact hx d ((h.2 d).1 hd).1 hk
  unfold putL
  by_cases hi : isC x
  · rw [if_pos ⟨hi, hno⟩]
    refine ⟨⟨ins_sorted h.1 hno, fun c => ?_⟩, by rw [ins_length]; exact Nat.le_refl _⟩
    rw [mem_ins, h.2, hl]
    constructor
    · rintro (rfl | ⟨h1, h2⟩)
      · exact ⟨.inr rfl, hi⟩
      · exact ⟨.inl h1, h2⟩
    · rintro ⟨h1 | rfl, h2⟩
      · exact .inr ⟨h1, h2⟩
      · exact .inl rfl
  · rw [if_neg (fun h => hi h.1)]
    refine ⟨⟨h.1, fun c => ?_⟩, Nat.le_succ _⟩
    rw [h.2, hl]
    constructor
    · rintro ⟨h1, h2⟩
      exact ⟨.inl h1, h2⟩
    · rintro ⟨h1 | rfl, h2⟩
      · exact ⟨h1, h2⟩
      · exact absurd h2 hi
theorem SetOf.one {M M' l : List Ce} (h : SetOf M l) (h' : SetOf M' l) : M = M' := sorted_ext h.1 h'.1 fun c => by rw [h.2, h'.2]
theorem putL_len (L : List Ce) (c : Ce) : (putL L c).2.length ≤ L.length + 1 := by
  unfold putL
  split
  · rw [ins_length]; exact Nat.le_refl _
  · exact Nat.le_succ _

set_option maxHeartbeats 32000000 in
theorem memTurns_walk {w : World} {S S' S2 : Nat → Prop} {v v' u : Value} {D D' : List Int} {L : List Ce} (hd : Sl w S v (D.map dv)) (hd' : Sl w S' v' (D'.map dv)) (h : Cs w S2 u L) (hf : LFits L) (hDl : D.length ≤ 140737488351232) (hDl' : D'.length ≤ 140737488351232) :
    Calls Try.prog 11 #[v, v', u] w fun e w' => e = .returned (.bool true) ∧ Ext w w' := by
  obtain ⟨A0, c0, hv, a1, a2, a3, -⟩ := hd.open_
  obtain ⟨A1, c1, hv', b1, b2, b3, -⟩ := hd'.open_
  subst hv
  subst hv'
  obtain ⟨A, c, rfl, h1, h2, h3, h4⟩ := h.open_ cel_len
  have hkn := fun wx => known9_any (w := wx)
  go_enter Try.func11, Try.ntmps11
  go_wp2_with fail
  refine (heavy9_any h hf).mono ?_
  rintro e w1 ⟨q, rfl, hq, x1⟩
  cases q
  case true =>
    clear hq
    go_wp2_with fail
    go_ret
    exact ⟨rfl, x1⟩
  obtain ⟨hw, hl⟩ := hq rfl
  clear hq
  by_cases h300 : 300 < D.length + D'.length
  · have hb : decide ((300 : Int) < (D.length : Int) + (D'.length : Int)) = true := dtrue (by omega)
    go_wp2_with fail
    go_ret
    exact ⟨rfl, x1⟩
  have hb : decide ((300 : Int) < (D.length : Int) + (D'.length : Int)) = false := dfalse (by omega)
  go_wp2_with fail
  go_loopw [7] (fun i wr => ∃ (k : Nat), i = .int .i64 (k : Nat) ∧ k ≤ L.length ∧ Hid (∀ i j (hi : i < L.length) (hj : j < L.length), i < j → j < k → ¬ (L[i].key = L[j].key ∧ L[i].seq = L[j].seq)) ∧ Ext w wr) (fun i _ => L.length - (intOf i).toNat)
  case atStart => exact ⟨0, rfl, Nat.zero_le _, Lib.hid (fun i j hi hj h1 h2 => by omega), x1⟩
  case round =>
    clear x1
    obtain ⟨k, rfl, hk, hA, x1⟩ := hrel
    by_cases hlt : k < L.length
    case pos =>
      have hbl : decide ((k : Int) < (L.length : Int)) = true := dtrue (by omega)
      go_wp2_with fail
      go_loopw [8] (fun i wr => ∃ (j : Nat), i = .int .i64 (j : Nat) ∧ j ≤ k ∧ Hid (∀ i (hi : i < L.length), i < j → ¬ (L[i].key = L[k].key ∧ L[i].seq = L[k].seq)) ∧ Ext w wr) (fun i _ => k - (intOf i).toNat)
      case atStart => exact ⟨0, rfl, Nat.zero_le _, Lib.hid (fun i hi h1 => by omega), x1⟩
      case round =>
        clear x1
        obtain ⟨j, rfl, hj, hB, x1⟩ := hrel
        by_cases hjk : j < k
        case neg =>
          have hbj : decide ((j : Int) < (k : Int)) = false := dfalse (by omega)
          have hA2 : Hid (∀ i j (hi : i < L.length) (hj : j < L.length), i < j → j < k + 1 → ¬ (L[i].key = L[j].key ∧ L[i].seq = L[j].seq)) := Lib.hid (fun i j' hi hj' h1 h2 => by
            by_cases e : j' = k
            · subst e; exact hB.out i hi (by omega)
            · exact hA.out i j' hi hj' h1 (by omega))
          clear hA hB
          go_wp2_with fail
          exact ⟨⟨k + 1, by go_num, by omega, hA2, x1⟩, by simp [intOf] <;> omega⟩
        have hbj : decide ((j : Int) < (k : Int)) = true := dtrue (by omega)
        have hjl : j < L.length := by omega
        obtain ⟨ad, hAd, -, c0, -, -, c3⟩ := Cs.at_ (h4.ext x1) hlt
        subst hAd
        obtain ⟨ad', hAd, -, d0, -, -, d3⟩ := Cs.at_ (h4.ext x1) hjl
        cases hAd
        have hi0 : (0 : Int) ≤ (k : Int) := by omega
        have hi1 : (k : Int) < (L.length : Int) := by omega
        have hi2 : (0 : Int) ≤ (j : Int) := by omega
        have hi3 : (j : Int) < (L.length : Int) := by omega
        have hB2 : ¬ (L[j].key = L[k].key ∧ L[j].seq = L[k].seq) → Hid (∀ i (hi : i < L.length), i < j + 1 → ¬ (L[i].key = L[k].key ∧ L[i].seq = L[k].seq)) := fun hn => Lib.hid (fun i hi h1 => by
          by_cases e : i = j
          · subst e; exact hn
          · exact hB.out i hi (by omega))
        replace hA := hA
        have hdw : ∀ m, Ext w (wr.drewN m) := fun m => x1.drewN m
        obtain ⟨P, hP⟩ : ∃ P : Prop, P = (∀ i (hi : i < L.length), i < j + 1 → ¬ (L[i].key = L[k].key ∧ L[i].seq = L[k].seq)) := ⟨_, rfl⟩
        rw [← hP] at hB2
        replace hP := Lib.hid hP
        clear hB hA
        generalize L[k] = y at *
        generalize L[j] = x at *
        cases hk1 : (x.key == y.key)
        case false =>
          have hB3 := hB2 (fun h => by rw [beq_eq_false_iff_ne] at hk1; exact hk1 h.1)
          clear hB2
          go_wp2_with fail
          go_quiet (fail)
          go_wp2_with fail
          exact ⟨⟨j + 1, by go_num, by omega, Lib.hid (hP.out ▸ hB3.out), hdw _⟩, by simp [intOf] <;> omega⟩
        cases hk2 : (x.seq == y.seq)
        case false =>
          have hB3 := hB2 (fun h => by rw [beq_eq_false_iff_ne] at hk2; exact hk2 h.2)
          clear hB2
          go_wp2_with fail
          go_quiet (fail)
          go_wp2_with fail
          exact ⟨⟨j + 1, by go_num, by omega, Lib.hid (hP.out ▸ hB3.out), hdw _⟩, by simp [intOf] <;> omega⟩
        clear hB2
        go_wp2_with fail
        go_quiet (fail)
        go_wp2_with fail
        refine (hkn _).mono ?_
        rintro e w8 ⟨rfl, x8⟩
        go_wp2_with fail
        go_ret
        exact ⟨rfl, ext_trans (hdw _) x8⟩
    have hbl : decide ((k : Int) < (L.length : Int)) = false := dfalse (by omega)
    have hAp : Hid (Apart L) := Lib.hid (fun i j hi hj h1 => hA.out i j hi hj h1 (by omega))
    clear hA hb
    have hn1 := fun (wx : World) (hx : Ext w wx) => new_any (hd.ext hx) (by omega)
    have hn2 := fun (wx : World) (hx : Ext w wx) => new_any (hd'.ext hx) (by omega)
    go_wp2_with fail
    refine (hn1 _ x1).mono ?_
    rintro e w2 ⟨g1, rfl, M1, x2⟩
    replace x2 := ext_trans x1 x2
    go_wp2_with fail
    refine (hn2 _ x2).mono ?_
    rintro e w3 ⟨g2, rfl, M2, x3⟩
    have M1' : Mt w3 (fun k => w.heap.size ≤ k ∧ k < w2.heap.size) g1 D [] := (M1.mono (T := fun k => w.heap.size ≤ k ∧ k < w2.heap.size) (fun k hk hs => ⟨by have := x1.size; omega, hk⟩)).ext x3
    have M2' : Mt w3 (fun k => w2.heap.size ≤ k) g2 D' [] := M2
    have hsz2 := x2.size
    replace x3 := ext_trans x2 x3
    clear hn1 hn2 M1 M2 x1 x2
    have hDa : D.length ≤ 1000000 := by omega
    have hDb : D'.length ≤ 1000000 := by omega
    have hgo : ∀ (w9 : World) (S1 S2 : Nat → Prop), (∀ k, S1 k → ¬ S2 k) → True := fun _ _ _ _ => trivial
    clear hgo
    go_wp2_with fail
    go_loopw [11] (fun i wr => ∃ (k : Nat) (Z1 Z2 : List Ce) (S1 S2 : Nat → Prop), i = .int .i64 (k : Nat) ∧ k ≤ L.length ∧ Hid (SetOf Z1 (L.take k) ∧ SetOf Z2 (L.drop (L.length - k)) ∧ Z1.length ≤ k ∧ Z2.length ≤ k) ∧ Hid ((∀ k, S1 k → ¬ S2 k) ∧ (∀ k, S1 k → w.heap.size ≤ k) ∧ (∀ k, S2 k → w.heap.size ≤ k)) ∧ Mt wr S1 g1 D Z1 ∧ Mt wr S2 g2 D' Z2 ∧ Ext w wr) (fun i _ => L.length - (intOf i).toNat)
    case atStart => exact ⟨0, [], [], _, _, rfl, Nat.zero_le _, Lib.hid ⟨⟨List.Pairwise.nil, fun c => by simp⟩, ⟨List.Pairwise.nil, fun c => by simp⟩, Nat.le_refl _, Nat.le_refl _⟩, Lib.hid ⟨fun k h1 h2 => by omega, fun k h => h.1, fun k h => by omega⟩, M1', M2', x3⟩
    case round =>
      clear M1' M2' x3
      obtain ⟨k, Z1, Z2, S1, S2, rfl, hk, hZ, hS, M1, M2, x1⟩ := hrel
      obtain ⟨hz1, hz2, hz3, hz4⟩ := hZ.out
      obtain ⟨hs1, hs2, hs3⟩ := hS.out
      by_cases hlt : k < L.length
      case neg =>
        have hbl : decide ((k : Int) < (L.length : Int)) = false := dfalse (by omega)
        have hkl : k = L.length := by omega
        have hZZ : Z1 = Z2 := by
          rw [hkl, List.take_of_length_le (Nat.le_refl _)] at hz1
          rw [hkl, Nat.sub_self, List.drop_zero] at hz2
          exact hz1.one hz2
        subst hZZ
        have hal1 := fun (wx : World) (hx : Ext wr wx) => allM_any (M1.ext hx) (by omega)
        have hal2 := fun (wx : World) (hx : Ext wr wx) => allM_any (M2.ext hx) (by omega)
        have hsi1 := fun (wx : World) (hx : Ext wr wx) => sizeM_any (M1.ext hx)
        have hsi2 := fun (wx : World) (hx : Ext wr wx) => sizeM_any (M2.ext hx)
        clear hz1 hz2 hkl
        go_wp2_with fail
        refine (hal1 _ (Mod.refl _ _)).mono ?_
        rintro e w4 ⟨v4, rfl, o4, -, x4⟩
        go_wp2_with fail
        refine (hal2 _ x4).mono ?_
        rintro e w5 ⟨v5, rfl, o5, -, x5⟩
        have hce := cells9_any (o4.rc.ext x5) o5.rc
        rw [dtrue rfl] at hce
        replace x5 := ext_trans x4 x5
        go_wp2_with fail
        refine hce.mono ?_
        rintro e w6 ⟨rfl, x6⟩
        replace x6 := ext_trans x5 x6
        clear hce o4 o5 hal1 hal2 x5 x4
        have hqq : (((sizeL Z1 : Nat) : Int) == ((sizeL Z1 : Nat) : Int)) = true := by simp
        go_wp2_with fail
        refine (hsi1 _ x6).mono ?_
        rintro e w7 ⟨rfl, x7⟩
        replace x7 := ext_trans x6 x7
        go_wp2_with fail
        refine (hsi2 _ x7).mono ?_
        rintro e w8 ⟨rfl, x8⟩
        replace x8 := ext_trans x7 x8
        go_wp2_with fail
        refine (hkn _).mono ?_
        rintro e w9 ⟨rfl, x9⟩
        go_wp2_with fail
        go_ret
        exact ⟨rfl, ext_trans x1 (ext_trans x8 x9)⟩
      have hbl : decide ((k : Int) < (L.length : Int)) = true := dtrue (by omega)
      have hq : L.length - 1 - k < L.length := by omega
      obtain ⟨q, hqe⟩ : ∃ q, q = L.length - 1 - k := ⟨_, rfl⟩
      rw [← hqe] at hq
      obtain ⟨ad, hAd, hSd, -⟩ := Cs.at_ h4 hlt
      subst hAd
      have hc1 := fun {wx : World} (hx : Ext w wx) => Cs.at_ (h4.ext hx) hlt
      have hc2 := fun {wx : World} (hx : Ext w wx) => Cs.at_ (h4.ext hx) hq
      have hp1 : Hid (SetOf (putL Z1 L[k]).2 (L.take (k + 1)) ∧ (putL Z1 L[k]).2.length ≤ k + 1) := Lib.hid (by
        have := hz1.put (x := L[k]) (fun c hc hk2 => by
          obtain ⟨i, hi, rfl⟩ := List.mem_iff_getElem.1 hc
          rw [List.length_take] at hi
          rw [List.getElem_take] at hk2
          exact hAp.out i k (by omega) hlt (by omega) hk2) (L.take (k + 1)) (fun c => by rw [List.take_succ_eq_append_getElem hlt, List.mem_append, List.mem_singleton])
        exact ⟨this.1, by omega⟩)
      have hp2 : Hid (SetOf (putL Z2 L[q]).2 (L.drop (L.length - (k + 1))) ∧ (putL Z2 L[q]).2.length ≤ k + 1) := Lib.hid (by
        have hqd : L.drop (L.length - (k + 1)) = L[q] :: L.drop (L.length - k) := by
          rw [show L.length - (k + 1) = q by omega, List.drop_eq_getElem_cons hq, show q + 1 = L.length - k by omega]
        have := hz2.put (x := L[q]) (fun c hc hk2 => by
          obtain ⟨i, hi, rfl⟩ := List.mem_iff_getElem.1 hc
          rw [List.length_drop] at hi
          rw [List.getElem_drop] at hk2
          exact hAp.out q (L.length - k + i) hq (by omega) (by omega) ⟨hk2.1.symm, hk2.2.symm⟩) (L.drop (L.length - (k + 1))) (fun c => by rw [hqd, List.mem_cons]; exact Or.comm)
        exact ⟨this.1, by omega⟩)
      have hi0 : (0 : Int) ≤ (k : Int) := by omega
      have hi1 : (k : Int) < (L.length : Int) := by omega
      have hi2 : (0 : Int) ≤ (q : Int) := by omega
      have hi3 : (q : Int) < (L.length : Int) := by omega
      have hqi : (L.length : Int) - 1 - (k : Int) = (q : Int) := by omega
      have hpa := put_any M1 L[k] (by omega) hDa
      have hpb := fun (wx : World) (T : Nat → Prop) (M : Mt wx T g2 D' Z2) => put_any M L[q] (by omega) hDb
      have hsw := x1.size
      clear hz1 hz2 hZ hqe M1
      obtain ⟨pa, hpae⟩ : ∃ pa, pa = putL Z1 L[k] := ⟨_, rfl⟩
      obtain ⟨pb, hpbe⟩ : ∃ pb, pb = putL Z2 L[q] := ⟨_, rfl⟩
      rw [← hpae] at hp1 hpa
      rw [← hpbe] at hp2
      simp only [← hpbe] at hpb
      clear hpae hpbe
      generalize L[k] = x at *
      generalize L[q] = y at *
      have hcx : ∀ {wx : World}, Ext w wx → wx.cell? (ad.add (k * 4)) = some (sv x.key) ∧ wx.cell? ⟨(ad.add (k * 4)).block, (ad.add (k * 4)).off + 1, none⟩ = some (sv x.val) ∧ wx.cell? ⟨(ad.add (k * 4)).block, (ad.add (k * 4)).off + 2, none⟩ = some (.bool x.del) ∧ wx.cell? ⟨(ad.add (k * 4)).block, (ad.add (k * 4)).off + 3, none⟩ = some (.int .i64 x.seq) := fun hx => by
        obtain ⟨ad', hA, _, d⟩ := hc1 hx
        cases hA
        exact d
      have hcy : ∀ {wx : World}, Ext w wx → wx.cell? (ad.add (q * 4)) = some (sv y.key) ∧ wx.cell? ⟨(ad.add (q * 4)).block, (ad.add (q * 4)).off + 1, none⟩ = some (sv y.val) ∧ wx.cell? ⟨(ad.add (q * 4)).block, (ad.add (q * 4)).off + 2, none⟩ = some (.bool y.del) ∧ wx.cell? ⟨(ad.add (q * 4)).block, (ad.add (q * 4)).off + 3, none⟩ = some (.int .i64 y.seq) := fun hx => by
        obtain ⟨ad', hA, _, d⟩ := hc2 hx
        cases hA
        exact d
      clear hc1 hc2
      obtain ⟨d0, d1, d2, d3⟩ := hcx x1
      go_wp2_with fail
      refine hpa.mono ?_
      rintro e wa ⟨rfl, Ma, ya⟩
      have xa : Ext w wa := x1.trans ya (fun _ _ h => h) (fun k hk h => by have := hs2 k h; omega)
      have hsa := ya.size
      have M2a : Mt wa (fun k => S2 k ∧ k < wr.heap.size) g2 D' Z2 := (M2.mono (T := fun k => S2 k ∧ k < wr.heap.size) (fun k hk hs => ⟨hs, hk⟩)).mod ya (fun k hk h1 h2 => hs1 k h2 h1.1)
      have hpc := hpb wa _ M2a
      clear hpa hpb d0 d1 d2 d3 M2
      obtain ⟨d0, d1, d2, d3⟩ := hcy xa
      go_wp2_with fail
      refine hpc.mono ?_
      rintro e wb ⟨rfl, Mb, yb⟩
      have xb : Ext w wb := xa.trans yb (fun _ _ h => h) (fun k hk h => by have := hs3 k h.1; omega)
      have Mab : Mt wb (fun k => (S1 k ∨ wr.heap.size ≤ k) ∧ k < wa.heap.size) g1 D pa.2 := (Ma.mono (T := fun k => (S1 k ∨ wr.heap.size ≤ k) ∧ k < wa.heap.size) (fun k hk hs => ⟨hs, hk⟩)).mod yb (fun k hk h1 h2 => by
        rcases h1.1 with h | h
        · exact hs1 k h h2.1
        · omega)
      have hSS : Hid ((∀ k, ((S1 k ∨ wr.heap.size ≤ k) ∧ k < wa.heap.size) → ¬ ((S2 k ∧ k < wr.heap.size) ∨ wa.heap.size ≤ k)) ∧ (∀ k, ((S1 k ∨ wr.heap.size ≤ k) ∧ k < wa.heap.size) → w.heap.size ≤ k) ∧ (∀ k, ((S2 k ∧ k < wr.heap.size) ∨ wa.heap.size ≤ k) → w.heap.size ≤ k)) := Lib.hid ⟨fun k h1 h2 => by
          rcases h2 with h2 | h2
          · rcases h1.1 with h | h
            · exact hs1 k h h2.1
            · omega
          · omega, fun k h1 => by
          rcases h1.1 with h | h
          · exact hs2 k h
          · omega, fun k h1 => by
          rcases h1 with h | h
          · exact hs3 k h.1
          · omega⟩
      clear d0 d1 d2 d3 hpc
      go_wp2_with fail
      exact ⟨⟨k + 1, pa.2, pb.2, _, _, by go_num, by omega, Lib.hid ⟨hp1.out.1, hp2.out.1, hp1.out.2, hp2.out.2⟩, hSS, Mab, Mb, xb⟩, by simp [intOf] <;> omega⟩
end Go.Proofs.Ytlfooppmdgddkaa
