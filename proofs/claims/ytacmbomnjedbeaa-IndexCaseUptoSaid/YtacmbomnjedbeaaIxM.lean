/- index: the groups of three bytes. -/
import Derived.Test.YtacmbomnjedbeaaIxL
import Derived.Test.YtacmbomnjedbeaaIxI
import Derived.Test.YtacmbomnjedbeaaIxF
import Derived.RegionTactic
import Derived.Deep.Cut
import Derived.Test.YtacmbomnjedbeaaRegA
namespace Go.Proofs.Ytacmbomnjedbeaa
open Go.RowKit Go.Maps
set_option maxRecDepth 100000

abbrev T3 := UInt8 × UInt8 × UInt8
abbrev gx (x : T3) : Lit := gk x.1 x.2.1 x.2.2
abbrev vx (x : T3) : Value := v3 x.1 x.2.1 x.2.2
abbrev lx (x : T3) : List UInt8 := [x.1, x.2.1, x.2.2]
theorem gx_inj {x y : T3} (h : gx x = gx y) : x = y := by
  have h1 := key3 x.1 x.2.1 x.2.2
  have h2 := key3 y.1 y.2.1 y.2.2
  rw [show gk y.1 y.2.1 y.2.2 = gk x.1 x.2.1 x.2.2 from h.symm] at h2
  have h3 := key3K.inj h1 h2
  obtain ⟨a, b, c⟩ := x
  obtain ⟨a', b', c'⟩ := y
  simp only [v3, bv, Value.agg.injEq, Array.mk.injEq, List.cons.injEq, Value.int.injEq, true_and, and_true] at h3
  obtain ⟨e1, e2, e3⟩ := h3
  rw [UInt8.toNat_inj.1 (Int.ofNat.inj e1), UInt8.toNat_inj.1 (Int.ofNat.inj e2), UInt8.toNat_inj.1 (Int.ofNat.inj e3)]
abbrev SetG (w : World) (b n : Nat) (D : DataW Unit) : Prop := w.ownsMap Try.prog 64 unitElem b n D
def IsG (D : DataW Unit) (L : List T3) : Prop := IsMap D ∧ ∀ x, has D (gx x) = decide (x ∈ L)
theorem isG_none : IsG (.map []) [] := ⟨isMap_empty, fun x => by simp [has_eq]⟩
theorem IsG.put {D : DataW Unit} {L : List T3} (h : IsG D L) (x : T3) : IsG (D.put (gx x) (.agg [])) (L ++ [x]) := by
  refine ⟨h.1.put _ _, fun y => ?_⟩
  by_cases e : y = x
  · subst e
    rw [has_put_same h.1 (k := gx y) (key3K.key (key3 _ _ _))]
    simp
  · rw [has_put_other (fun e2 => e (gx_inj e2)), h.2]
    simp [e]
/-- The first i groups. -/
def grm (l : List UInt8) (i : Nat) : List T3 := (List.range i).map fun j => (l.getD j 0, l.getD (j + 1) 0, l.getD (j + 2) 0)
theorem at_str (l : List UInt8) (j : Nat) (h : j < l.length) : (⟨l.toArray⟩ : ByteArray)[j]? = some (l.getD j 0) := by
  rw [getElem?_pos _ _ (by rw [← sv_sizeI] at h; exact h)]
  show some (l.toArray[j]) = _
  simp [List.getElem?_eq_getElem h]
theorem run_idx (l : List UInt8) (j : Nat) (i : Int) (hi : i = j) (h : j < l.length) (w : World) : (Instr.index 9 (sv l) (.int .i64 i)).run Try.prog w = .ok (bv (l.getD j 0)) w := by
  subst hi
  simp [Instr.index, run_underlying Try.underlying9, asIntOf, Result.andThen, at_str l j h]
theorem ownT_ne_iter {H : Type} {P : Program} {k : TypeId} {R : Value → Option (DataW H × List MemPlace)} {w : World} {b r n : Nat} {D : DataW H} {left : Lit → Bool} {cnt : Nat} {v : Value} {L : Tx} (h : OwnT w v L) (hm : w.ranges P k R b r n D left cnt) : ¬ own v r := by
  intro ho
  obtain ⟨es, clock, since, seen, c0, hb, F', hs, hD, hr, rest⟩ := hm
  rcases h.2 with ⟨rfl, _⟩ | ⟨g, cap, cur, rfl, _, hh, _⟩
  · simp [own, Value.ownBlock] at ho
  · have : g = r := by simpa [own, Value.ownBlock] using ho
    subst this
    rw [hh] at hr
    cases hr
theorem ownT_ne_map {H : Type} {P : Program} {kt : TypeId} {R : Value → Option (DataW H × List MemPlace)} {w : World} {b n : Nat} {D : DataW H} {v : Value} {L : Tx} (h : OwnT w v L) (hm : w.ownsMap P kt R b n D) : ¬ own v b := by
  intro ho
  obtain ⟨es, clock, hb, _⟩ := hm
  rcases h.2 with ⟨rfl, _⟩ | ⟨g, cap, cur, rfl, _, hh, _⟩
  · simp [own, Value.ownBlock] at ho
  · have : g = b := by simpa [own, Value.ownBlock] using ho
    subst this
    rw [hh] at hb
    cases hb
theorem ownT_some {w : World} {v : Value} {L : Tx} (h : OwnT w v L) (hL : L ≠ []) : v ≠ .slice none 0 0 := by
  rcases Own.form h with ⟨_, h2⟩ | ⟨g, cap, rfl, _⟩
  · exact absurd (List.map_eq_nil_iff.1 h2) hL
  · simp
/-- The groups that have come. -/
def Gac (T : List T3) (left : Lit → Bool) (G : Tx) : Prop := G.Nodup ∧ ∀ x, x ∈ G ↔ ∃ t, t ∈ T ∧ left (gx t) = false ∧ x = lx t
theorem Gac.start {D : DataW Unit} {T : List T3} (h : IsG D T) : Gac T (has D) [] := ⟨List.nodup_nil, fun r => ⟨(fun h => by cases h), (fun ⟨k, h1, h2, _⟩ => by rw [h.2] at h2; simp [h1] at h2)⟩⟩
theorem grm_succ (l : List UInt8) (i : Nat) : grm l (i + 1) = grm l i ++ [(l.getD i 0, l.getD (i + 1) 0, l.getD (i + 2) 0)] := by
  simp [grm, List.range_succ]

theorem strike_g (left : Lit → Bool) (x t : T3) : ((left (gx t) && !(gx t).sameKey (gx x)) = false) ↔ left (gx t) = false ∨ t = x := by
  by_cases h : t = x
  · subst h; simp [Lit.sameKey, gk]
  · have h2 : gx t ≠ gx x := fun e => h (gx_inj e)
    have h3 : (gx t).sameKey (gx x) = false := by
      simp only [gk, ne_eq, Lit.string.injEq] at h2
      simp [Lit.sameKey, gk, h2]
    rw [h3]
    simp [h]
theorem lx_inj {x y : T3} (h : lx x = lx y) : x = y := by
  obtain ⟨a, b, c⟩ := x
  obtain ⟨a', b', c'⟩ := y
  simp only [List.cons.injEq, and_true] at h
  obtain ⟨rfl, rfl, rfl⟩ := h
  rfl
theorem Gac.more {T : List T3} {left : Lit → Bool} {G : Tx} {x : T3} (h : Gac T left G) (hx : x ∈ T) (hl : left (gx x) = true) : Gac T (fun z => left z && !z.sameKey (gx x)) (G ++ [lx x]) := by
  obtain ⟨h1, h2⟩ := h
  refine ⟨List.nodup_append.2 ⟨h1, by simp, fun r hr s hs => ?_⟩, fun r => ?_⟩
  · simp only [List.mem_singleton] at hs
    subst hs
    rintro rfl
    obtain ⟨t, _, ht, e⟩ := (h2 _).1 hr
    rw [← lx_inj e, hl] at ht
    cases ht
  · rw [List.mem_append, h2, List.mem_singleton]
    constructor
    · rintro (⟨t, t1, t2, rfl⟩ | rfl)
      · exact ⟨t, t1, (strike_g left x t).2 (.inl t2), rfl⟩
      · exact ⟨x, hx, (strike_g left x x).2 (.inr rfl), rfl⟩
    · rintro ⟨t, t1, t2, rfl⟩
      rcases (strike_g left x t).1 t2 with h | rfl
      · exact .inl ⟨t, t1, h, rfl⟩
      · exact .inr rfl
theorem Gac.all {T : List T3} {left : Lit → Bool} {G G' : Tx} (h : Gac T left G) (hl : ∀ kl, left kl = false) (hp : G'.Perm G) (hs : G'.Pairwise fun x y => Op.bytesLess y x = false) : riseT G' ∧ ∀ x, x ∈ G' ↔ ∃ t ∈ T, x = lx t := by
  have hn : G'.Nodup := hp.nodup_iff.2 h.1
  refine ⟨(hs.and hn).imp fun {x y} h => less_tot h.1 fun e => h.2 e.symm, fun x => ?_⟩
  rw [hp.mem_iff, h.2]
  exact ⟨fun ⟨t, t1, _, e⟩ => ⟨t, t1, e⟩, fun ⟨t, t1, e⟩ => ⟨t, t1, hl _, e⟩⟩
theorem keyIs3 {x : T3} {kl : Lit} (h : keyOf Try.prog 64 (vx x) = some kl) : kl = gx x := by
  rw [key3] at h
  exact (Option.some.inj h).symm
theorem left_in3 {D : DataW Unit} {L : List T3} (hs : IsG D L) {x : T3} {y : DataW Unit} (hat : ∀ zd, D.atKey (gx x) zd = y) : x ∈ L := by
  have := has_true_of_atKey hat
  rw [hs.2] at this
  simpa using this

set_option maxHeartbeats 16000000 in
theorem grams_any (hsrt : SortT) {w : World} (s : List UInt8) (hl : s.length ≤ 10000) :
    Calls Try.prog 17 #[sv s] w fun e w' => ∃ u G, e = .returned u ∧ OwnT w' u G ∧ Fresh w.heap.size u ∧ (riseT G ∧ ∀ x, x ∈ G ↔ ∃ t ∈ grm s (s.length - 2), x = lx t) ∧ Ext w w' := by
  have hmm : ∀ wx : World, (Instr.makeMap 63 none).run Try.prog wx = .ok (.map (some wx.heap.size)) (wx.alloc (.map #[] 0)) := fun wx => by simp [Instr.makeMap, Result.andThen]
  have M0 : SetG (w.alloc (.map #[] 0)) w.heap.size 0 (.map []) := World.ownsMap_made _ _ _ _
  have x0 : Ext w (w.alloc (.map #[] 0)) := (Mod.refl _ w).alloc _
  have hsz := sv_sizeI s
  go_enter Try.func17, Try.ntmps17
  go_wp2_with fail
  go_loopw [4] (fun i wr => ∃ (k : Nat) (D : DataW Unit), k ≤ s.length - 2 ∧ i = .int .i64 k ∧ SetG wr w.heap.size k D ∧ Hid (IsG D (grm s k)) ∧ Ext w wr) (fun i _ => s.length - (intOf i).toNat)
  case atStart => exact ⟨0, _, Nat.zero_le _, rfl, M0, Lib.hid isG_none, x0⟩
  case round =>
    clear M0 x0 hmm
    obtain ⟨k, D, hk, rfl, hM, hix, hx⟩ := hrel
    by_cases hlt : k < s.length - 2
    case neg =>
      have hbl : decide ((k : Int) + 3 ≤ (s.length : Int)) = false := dfalseI (by omega)
      obtain ⟨n, hn⟩ : ∃ n, n = s.length - 2 := ⟨_, rfl⟩
      obtain rfl : k = n := by omega
      have hz := hM.size_le
      have hkk : k ≤ 10000 := by omega
      replace hn := Lib.hid hn
      go_wp2_with (first
        | ((with_reducible show wpList _ _ _ (⟨some 30, _, _, _, _, _⟩ :: _) _ _); refine wpList_len_own _ rfl _ 63 rfl 64 50 Try.underlying63 _ w.heap.size k D rfl hM ?_)
        | ((with_reducible show wpList _ _ _ (⟨some 31, _, _, _, _, _⟩ :: _) _ _); refine wp_make0 tyS (size D) rfl _ _ rfl rfl rfl (by omega) ?_; intro w2 o2 x2 z2)
        | (at_range; refine wpList_range_own _ rfl _ 63 rfl 64 50 key3K Try.underlying63 _ w.heap.size k D rfl (ownsMap_mod hM x2 (fun h => h)) ?_; intro w3 hrg0 hg0 hs0))
      go_frame
      have x3 : Ext w2 w3 := Mod.of_grown hg0 (fun k e => by cases e)
      have y3 := ext_trans (ext_trans hx x2) x3
      have o3 : OwnT w3 (.slice (some ⟨wr.heap.size, 0, none⟩) 0 (size D)) [] := Own.mod o2 x3 (fun _ _ h => h)
      have f3 : Fresh w.heap.size (.slice (some ⟨wr.heap.size, 0, none⟩) 0 (size D)) := fun b hb => by
        have e : wr.heap.size = b := by simpa [Value.ownBlock] using hb
        have := hx.size; omega
      have hr0 : w.heap.size ≤ w2.heap.size := (ext_trans hx x2).size
      clear hM x2 o2 hx x3 hg0 hs0 z2
      obtain ⟨r, hr⟩ : ∃ r, r = w2.heap.size := ⟨_, rfl⟩
      rw [← hr] at hrg0 hr0 ⊢
      clear hr
      go_loopw [5] (fun u wr => ∃ left cnt G, wr.ranges Try.prog 64 unitElem w.heap.size r k D left cnt ∧ OwnT wr u G ∧ Fresh w.heap.size u ∧ G.length + cnt ≤ k ∧ Hid (Gac (grm s k) left G) ∧ Hid (u ≠ .slice none 0 0) ∧ Ext w wr) (fun _ wr => wr.rangeLeft w.heap.size r)
      case atStart => exact ⟨_, _, [], hrg0, o3, f3, by simpa using hz, Lib.hid (Gac.start hix.out), Lib.hid (by simp), y3⟩
      case round =>
        clear hrg0 o3 f3 y3 hz
        obtain ⟨left, cnt, G, hrg, ho, hf, hlen, hg, hnn, hx⟩ := hrel
        go_wp2_with (first
          | (at_next; refine wpList_next_ranges _ rfl _ rfl 64 key3K unitElem vx (fun _ : Unit => .agg #[]) (fun _ _ h => key3_inv h) invU w.heap.size r k _ _ _ rfl hrg ?_ ?_))
        · intro hc0 hl0
          have hall := fun G' hp hs => hg.out.all hl0 (G' := G') hp hs
          have hlo : G.length ≤ 100000 := by omega
          replace hall := Lib.hid hall
          have hc := hsrt ho hnn.out hlo
          clear hg hrg hc0 hl0 hlen hsrt hix
          go_wp2_with fail
          refine hc.mono ?_
          rintro e w5 ⟨rfl, G', hp, hs, o5, m5⟩
          have hd := Lib.hid (hall.out _ hp hs)
          have x5 : Ext w w5 := hx.trans m5 (fun _ _ h => h) (fun k hk h => by have := hf k h; omega)
          clear hall hp hs
          go_wp2_with fail
          go_ret
          exact ⟨_, G', rfl, o5, hf, (by have := hd.out; rwa [hn.out] at this), x5⟩
        · intro xa xb xc kl yd yp w4 cnt2 hkey hlk hv hat hrg2 hlt hg2 hs2 hen
          obtain rfl := keyIs3 hkey
          have hxa : (xa, xb, xc) ∈ grm s k := left_in3 hix.out hat
          have x4 : Mod (fun k => k = r) wr w4 := Mod.of_grown hg2 (fun k e => by injection e with e; exact e.symm)
          have y4 : Ext w w4 := hx.trans x4 (fun _ _ h => h) (fun k hk h => by omega)
          have o4 : OwnT w4 _ G := Own.mod ho x4 (fun k hk h => by subst h; exact ownT_ne_iter ho hrg hk)
          have hml := hrg.left_eq
          have hgn := Lib.hid (hg.out.more hxa hlk)
          clear hg2 hs2 hrg ho hx x4 hv hat hg
          obtain ⟨w5, hw5⟩ : ∃ w5, w5 = w4.alloc (.cells #[bv xa, bv xb, bv xc] 64) := ⟨_, rfl⟩
          have x5 : Ext w4 w5 := by rw [hw5]; exact (Mod.refl _ w4).alloc _
          have b5 : Bs w5 (fun _ => True) (.slice (some ⟨w4.heap.size, 0, none⟩) 3 3) [xa, xb, xc] := by rw [hw5]; exact (Bs.lit w4 64 [xa, xb, xc] (by simp [maxLen])).mono fun _ _ _ => trivial
          have cv := run_conv (P := Try.prog) Try.underlying65 Try.underlying5 Try.underlying9 b5
          have y5 := ext_trans y4 x5
          have o5 : OwnT w5 _ G := Own.mod o4 x5 (fun _ _ h => h)
          have hrg5 := ranges_mod hrg2 x5 (fun h => h) (fun h => h)
          clear b5 x5 y4 o4 hrg2 hkey
          replace hw5 := Lib.hid hw5
          go_upto_region 10 with (fail)
          rw [← hw5.out]
          go_wp2_with ((with_reducible show wpList _ _ _ (⟨some 42, _, _, _, _, _⟩ :: _) _ _); refine wp_appT (x := [xa, xb, xc]) o5 (by omega) rfl _ _ rfl rfl rfl ?_; intro v6 w6 o6 m6 n6)
          have hrg6 := ranges_mod hrg5 m6 (ownT_ne_map o5 hrg5.owns) (ownT_ne_iter o5 hrg5)
          exact ⟨⟨_, cnt2, _, hrg6, o6, n6.fresh hf y5.size, by simp only [List.length_append, List.length_cons, List.length_nil]; omega, hgn, Lib.hid (ownT_some o6 (by simp)), ext_app0 y5 hf m6⟩, by rw [hrg6.left_eq, hml]; exact hlt⟩
    have hbl : decide ((k : Int) + 3 ≤ (s.length : Int)) = true := dtrueI (by omega)
    have hst := Lib.hid (hix.out.put (s.getD k 0, s.getD (k + 1) 0, s.getD (k + 2) 0))
    rw [← grm_succ] at hst
    have hi0 : (0 : Int) ≤ (k : Int) := by omega
    have hi1 : (k : Int) < (s.length : Int) := by omega
    have hi2 : (0 : Int) ≤ (k : Int) + 1 := by omega
    have hi3 : (k : Int) + 1 < (s.length : Int) := by omega
    have hi4 : (0 : Int) ≤ (k : Int) + 2 := by omega
    have hi5 : (k : Int) + 2 < (s.length : Int) := by omega
    have hdw : SetG wr.drew w.heap.size k D := hM
    have hx0 := run_idx s k (k : Int) rfl (by omega)
    have hx1 := run_idx s (k + 1) ((k : Int) + 1) (by omega) (by omega)
    have hx2 := run_idx s (k + 2) ((k : Int) + 2) (by omega) (by omega)
    have hw1 : IntKind.i64.wrap ((k : Int) + 1) = (k : Int) + 1 := IntWalk.i64_in _ ⟨by omega, by omega⟩
    have hw2 : IntKind.i64.wrap ((k : Int) + 2) = (k : Int) + 2 := IntWalk.i64_in _ ⟨by omega, by omega⟩
    generalize s.getD k 0 = c0 at *
    generalize s.getD (k + 1) 0 = c1 at *
    generalize s.getD (k + 2) 0 = c2 at *
    obtain ⟨w5, hrun, M5, t5⟩ := hdw.store key3K Try.underlying63 (by unfold maxLen; omega) (key3 c0 c1 c2) (val := .agg #[]) unitElem_mk
    have m5 : Mod (fun b => b = w.heap.size) wr.drew w5 := Mod.of_grown t5.grown (fun k e => by injection e with e; exact e.symm)
    have x5 : Ext w w5 := (Mod.drew hx).trans m5 (fun _ _ h => h) (fun b hb h => by omega)
    clear t5 m5 hdw
    go_wp2_with fail
    go_region_held3 (fun _ => True) (exact trivial) (fail)
    all_goals go_wp2_with fail
    all_goals exact ⟨⟨k + 1, _, by omega, by go_num, M5, hst, x5⟩, by simp [intOf] <;> omega⟩
end Go.Proofs.Ytacmbomnjedbeaa
