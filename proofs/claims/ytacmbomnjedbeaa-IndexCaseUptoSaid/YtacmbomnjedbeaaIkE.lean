/- index: how an attribute's keys begin (the program's begins). -/
import Derived.Test.YtacmbomnjedbeaaIxS
import Derived.Test.YtacmbomnjedbeaaEvD
import Derived.Test.YtacmbomnjedbeaaMtE
import Derived.Test.YtacmbomnjedbeaaEnx
import Derived.Test.YtacmbomnjedbeaaIxC
import Derived.Test.YtacmbomnjedbeaaDnI
import Derived.Test.YtacmbomnjedbeaaIxO
import Derived.Shelf.SlIter.Sorted
import Derived.Shelf.SortG.SortNone
import Derived.Test.YtacmbomnjedbeaaIxQ
namespace Go.Proofs.Ytacmbomnjedbeaa
open Go.RowKit
set_option maxRecDepth 100000

theorem riseT_nodup {L : Tx} (h : riseT L) : L.Nodup := List.Pairwise.imp (fun {a b} hab e => by subst e; rw [less_irr] at hab; cases hab) h
theorem nodup_le : ∀ (L M : Tx), L.Nodup → (∀ x ∈ L, x ∈ M) → L.length ≤ M.length
  | [], M, _, _ => Nat.zero_le _
  | x :: L, M, h, hs => by
    have hx : x ∈ M := hs x List.mem_cons_self
    obtain ⟨h1, h2⟩ := List.nodup_cons.1 h
    have h3 := nodup_le L (M.erase x) h2 (fun y hy => (List.mem_erase_of_ne (fun (e : y = x) => h1 (by rw [← e]; exact hy))).2 (hs y (List.mem_cons_of_mem _ hy)))
    have h4 := List.length_erase_of_mem hx
    have h5 : 0 < M.length := List.length_pos_of_mem hx
    rw [List.length_cons]; omega
theorem grams_len {s : List UInt8} {G : Tx} (h : riseT G) (hm : ∀ x, x ∈ G ↔ ∃ t ∈ grm s (s.length - 2), x = lx t) : G.length ≤ s.length - 2 := by
  have := nodup_le G ((grm s (s.length - 2)).map lx) (riseT_nodup h) (fun x hx => by obtain ⟨t, ht, rfl⟩ := (hm x).1 hx; exact List.mem_map.2 ⟨t, ht, rfl⟩)
  unfold grm at this
  simpa using this
theorem lk_mem {k : ByteArray} {v : Value} : ∀ {D : List (ByteArray × Value)}, lk k D = some v → ∃ p ∈ D, p.2 = v
  | [], h => by cases h
  | p :: r, h => by
    unfold lk at h
    by_cases hk : (k == p.1) = true
    · rw [if_pos hk] at h; injection h with h; exact ⟨p, List.mem_cons_self, h⟩
    · rw [if_neg hk] at h
      obtain ⟨q, hq, e⟩ := lk_mem h
      exact ⟨q, List.mem_cons_of_mem _ hq, e⟩
theorem ty_form {k : ByteArray} {v : Value} (h : lk k tyD = some v) : ∃ n q, v = .agg #[.int .i64 n, .bool q] ∧ 1 ≤ n ∧ n ≤ 5 := by
  obtain ⟨p, hp, rfl⟩ := lk_mem h
  simp only [tyD, List.mem_cons, List.not_mem_nil, or_false] at hp
  rcases hp with rfl | rfl | rfl | rfl | rfl | rfl | rfl | rfl | rfl | rfl | rfl | rfl | rfl | rfl | rfl | rfl | rfl | rfl | rfl
  all_goals exact ⟨_, _, rfl, by decide, by decide⟩
theorem normM_gram {n : Int} {s : List UInt8} (hn : n = 1 ∨ n = 5) : (normM n s).1.length ≤ s.length := by
  unfold normM
  by_cases h256 : 256 < s.length
  · rw [if_pos h256]; exact Nat.zero_le _
  rw [if_neg h256]
  rcases hn with rfl | rfl
  · rw [if_pos rfl]
    unfold textB
    split
    · exact Nat.zero_le _
    · exact normV_len s
  · rw [if_neg (by decide), if_neg (by decide), if_neg (by decide), if_neg (by decide), if_pos rfl]
    exact List.length_filter_le _ _
theorem normM_big {n : Int} {s : List UInt8} : (normM n s).1.length ≤ 8000 := by
  unfold normM
  by_cases h256 : 256 < s.length
  · rw [if_pos h256]; exact Nat.zero_le _
  rw [if_neg h256]
  split
  · unfold textB
    split
    · exact Nat.zero_le _
    · have := normV_len s; show (normV s).length ≤ 8000; omega
  split
  · unfold numB
    split
    · show s.length ≤ 8000; omega
    · exact Nat.zero_le _
  split
  · unfold nameB
    split
    · rename_i h
      have h1 := name_wN (name_norm (parse_name h))
      have h2 := printB_len (norm (parseB s).1)
      show (printB (norm (parseB s).1)).length ≤ 8000
      omega
    · exact Nat.zero_le _
  split
  · show s.length ≤ 8000; omega
  split
  · have := bare_len s; show (bareB s).length ≤ 8000; omega
  · exact Nat.zero_le _
def isBeg (T : List UInt8) (n : Int) (vals : List (List UInt8)) (x : List UInt8) : Prop :=
  x = presB T ∨ ∃ v ∈ vals, (normM n v).2 = true ∧ (x = begB 101 T (normM n v).1 ∨ ((n = 1 ∨ n = 5) ∧ ∃ t ∈ grm (normM n v).1 ((normM n v).1.length - 2), x = begB 103 T (lx t)))
/-- What begins tells. -/
structure BegR (t : List UInt8) (vals : List (List UInt8)) (B : Tx) : Prop where
  no : (lk ⟨(foldB t).toArray⟩ tyD = none ∨ vals = []) → B = []
  yes : ∀ n q, lk ⟨(foldB t).toArray⟩ tyD = some (.agg #[.int .i64 n, .bool q]) → vals ≠ [] → ∀ x, x ∈ B ↔ isBeg (foldB t) n vals x
  len : B.length ≤ 1 + 2 * wV vals
theorem isBeg_next {T : List UInt8} {n : Int} {vals : List (List UInt8)} {k : Nat} (hk : k < vals.length) (x : List UInt8) : isBeg T n (vals.take (k + 1)) x ↔ isBeg T n (vals.take k) x ∨ ((normM n vals[k]).2 = true ∧ (x = begB 101 T (normM n vals[k]).1 ∨ ((n = 1 ∨ n = 5) ∧ ∃ t ∈ grm (normM n vals[k]).1 ((normM n vals[k]).1.length - 2), x = begB 103 T (lx t)))) := by
  unfold isBeg
  rw [List.take_succ_eq_append_getElem hk]
  simp only [List.mem_append, List.mem_singleton]
  constructor
  · rintro (h | ⟨v, hv | hv, h⟩)
    · exact .inl (.inl h)
    · exact .inl (.inr ⟨v, hv, h⟩)
    · subst hv; exact .inr h
  · rintro ((h | ⟨v, hv, h⟩) | h)
    · exact .inl h
    · exact .inr ⟨v, .inl hv, h⟩
    · exact .inr ⟨_, .inr rfl, h⟩

set_option maxHeartbeats 16000000 in
theorem begs_any {w : World} {vv : Value} {t : List UInt8} {vals : List (List UInt8)} (hv : Ss w AllE vv vals) (ht : t.length ≤ 1000000) (hw : wV vals ≤ 100000) :
    Calls Try.prog 21 #[.agg #[sv t, vv]] w fun e w' => ∃ u B, e = .returned u ∧ OwnT w' u B ∧ Fresh w.heap.size u ∧ BegR t vals B ∧ Ext w w' := by
  have hge := wV_ge vals
  have hvl : ∀ v ∈ vals, v.length ≤ 100000 := fun v hv => by have := wV_mem hv; omega
  obtain ⟨A, c, hvv, -⟩ := hv.open_
  obtain ⟨m, hm⟩ : ∃ m, m = vals.length := ⟨_, rfl⟩
  rw [← hm] at hvv
  subst hvv
  obtain ⟨w1, hw1⟩ : ∃ x, x = w.alloc (.cells #[sv t, .slice A m c] 37) := ⟨_, rfl⟩
  obtain ⟨p, hp⟩ : ∃ p, p = w.heap.size := ⟨_, rfl⟩
  have x1 : Ext w w1 := by rw [hw1]; exact (Mod.refl _ w).alloc _
  have BP : Blk w1 p 37 #[sv t, .slice A m c] := by rw [hw1, hp]; exact Blk.new w _ _
  have hpc : ∀ {wx : World}, Ext w1 wx → wx.cell? ⟨p, 1, none⟩ = some (.slice A m c) := fun x => (BP.mod x (fun h => h)).cell 1
  have p0 : w1.cell? ⟨p, 0, none⟩ = some (sv t) := BP.cell 0
  have hfl := foldB_len t
  have hM : m ≤ 100000 := by omega
  have hws : w.heap.size ≤ w1.heap.size := x1.size
  replace hm := Lib.hid hm
  replace hw1 := Lib.hid hw1
  replace hp := Lib.hid hp
  have hv1 := hv.ext x1
  clear BP hv
  go_enter Try.func21, Try.ntmps21
  go_upto_region 1 with fail
  rw [← hw1.out, ← hp.out]
  clear hw1 hp
  cases hlk : lk ⟨(foldB t).toArray⟩ tyD with
  | none =>
    have hc := stype_no (w := w1) (s := t) (by omega) hlk
    go_wp2_with fail
    refine hc.mono ?_
    rintro e w2 ⟨rfl, x2⟩
    go_wp2_with fail
    go_ret
    exact ⟨_, [], rfl, Own.nil _ _, fresh_nil _ _ _, ⟨fun _ => rfl, fun n q h => (by rw [hlk] at h; cases h), Nat.zero_le _⟩, ext_trans x1 x2⟩
  | some v =>
    obtain ⟨n, q, rfl, hn1, hn5⟩ := ty_form hlk
    have hc := stype_yes (w := w1) (s := t) (by omega) hlk
    by_cases hm0 : m = 0
    · have hve : vals = [] := List.eq_nil_of_length_eq_zero (by have := hm.out; omega)
      subst hm0
      go_wp2_with fail
      refine hc.mono ?_
      rintro e w2 ⟨rfl, x2⟩
      have p1 := hpc x2
      go_wp2_with fail
      go_ret
      exact ⟨_, [], rfl, Own.nil _ _, fresh_nil _ _ _, ⟨fun _ => rfl, fun n q h hne => absurd hve hne, Nat.zero_le _⟩, ext_trans x1 x2⟩
    have hb0 : ((m : Int) == 0) = false := by rw [beq_eq_false_iff_ne]; omega
    have hlk2 := Lib.hid hlk
    clear hlk
    obtain ⟨T, hT⟩ : ∃ T, T = foldB t := ⟨_, rfl⟩
    rw [← hT] at hc hfl
    replace hT := Lib.hid hT
    go_wp2_with fail
    refine hc.mono ?_
    rintro e w2 ⟨rfl, x2⟩
    have p1 := hpc x2
    have hc2 := present_any (w := w2) (t := T) (by omega)
    clear hc
    go_wp2_with fail
    refine hc2.mono ?_
    rintro e w3 ⟨rfl, x3⟩
    have y3 := ext_trans x2 x3
    have p3 := hpc (ext_trans y3 ((Mod.refl _ w3).alloc (.cells #[sv (presB T)] 9)))
    have o3 : OwnT (w3.alloc (.cells #[sv (presB T)] 9)) (.slice (some ⟨w3.heap.size, 0, none⟩) 1 1) [presB T] := Own.lit w3 9 [sv (presB T)] (by simp [maxLen])
    have f3 : Fresh w1.heap.size (.slice (some ⟨w3.heap.size, 0, none⟩) 1 1) := fun k hk => by have : w3.heap.size = k := Option.some.inj hk; have := y3.size; omega
    have z3 := ext_trans y3 ((Mod.refl _ w3).alloc (.cells #[sv (presB T)] 9))
    clear hc2 p1 p0 x2 x3 y3
    go_wp2_with fail
    go_loopw [7, 36] (fun u i wr => ∃ (k : Nat) (B : Tx), k ≤ m ∧ i = .int .i64 k ∧ OwnT wr u B ∧ Fresh w1.heap.size u ∧ Hid (∀ x, x ∈ B ↔ isBeg T n (vals.take k) x) ∧ B.length ≤ 1 + 2 * wV (vals.take k) ∧ Ext w1 wr) (fun _ i _ => m - (intOf i).toNat)
    case atStart => exact ⟨0, [presB T], Nat.zero_le _, rfl, o3, f3, Lib.hid (fun x => by simp [isBeg]), by simp, z3⟩
    case round =>
      clear o3 f3 z3 p3
      obtain ⟨k, B, hk, rfl, ho, hf, hB, hBl, hx⟩ := hrel
      by_cases hlt : k < m
      case neg =>
        have hbl : decide ((k : Int) < (m : Int)) = false := dfalse (by omega)
        have hbn : decide (k < m) = false := dfalse (by omega)
        have hmm := hm.out
        rw [List.take_of_length_le (by omega)] at hBl
        have hB2 := hB.out
        rw [List.take_of_length_le (by omega)] at hB2
        have hR : BegR t vals B := ⟨fun h => by
          rcases h with h | h
          · rw [hlk2.out] at h; cases h
          · rw [h] at hmm; exact absurd hmm hm0, fun n' q' h _ x => by
          rw [hlk2.out] at h
          injection h with h
          injection h with h
          have h1 := congrArg (fun (a : Array Value) => a[0]?) h
          simp at h1
          rw [← h1, ← hT.out]
          exact hB2 x, hBl⟩
        clear hmm hB2
        go_wp2_with fail
        go_ret
        exact ⟨_, B, rfl, ho, hf.mono hws, hR, ext_trans x1 hx⟩
      have hbl : decide ((k : Int) < (m : Int)) = true := dtrue (by omega)
      have hbn : decide (k < m) = true := dtrue (by omega)
      have hi0 : (0 : Int) ≤ (k : Int) := by omega
      have hi1 : (k : Int) < (m : Int) := by omega
      have l1 : k < vals.length := by have := hm.out; omega
      obtain ⟨A2, c2, e1, _, _, _, h5⟩ := (Sl.ext hv1 hx).open_
      injection e1 with e1 e2 e3
      clear e2
      subst e1
      subst e3
      obtain ⟨ad, e2, _, h6⟩ := h5.at_ l1
      subst e2
      have hsn := isBeg_next (T := T) (n := n) l1
      have hwn := sumF_next vW vals l1
      rw [← wV_sum, ← wV_sum] at hwn
      have hwt := sumF_take vW vals (k + 1)
      rw [← wV_sum, ← wV_sum] at hwt
      have hvk := hvl _ (List.getElem_mem l1)
      generalize vals[k] = v at *
      have hvw : vW v = 1 + v.length := rfl
      rw [hvw] at hwn
      have hc := mnorm_any (w := wr) n v (by omega)
      have hgr := fun h => normM_gram (n := n) (s := v) h
      have hle := fun h => normM_len (k := n) (s := v) h
      clear h5 l1
      generalize hN : (normM n v).1 = N at *
      generalize hK : (normM n v).2 = K at *
      go_wp2_with fail
      refine hc.mono ?_
      rintro e w4 ⟨rfl, x4⟩
      have o4 := ho.mod x4 (fun _ _ h => h)
      have y4 := ext_trans hx x4
      clear hc ho h6
      cases K with
      | false =>
        have hB3 : Hid (∀ x, x ∈ B ↔ isBeg T n (vals.take (k + 1)) x) := Lib.hid fun x => by rw [hsn, hB.out]; simp
        clear hsn hB hgr hle
        go_wp2_with fail
        exact ⟨⟨k + 1, B, by omega, by go_num, o4, hf, hB3, by omega, y4⟩, by simp [intOf] <;> omega⟩
      | true =>
        have hN8 : N.length ≤ 8000 := by rw [← hN]; exact normM_big
        have hc := equalI_any (w := w4) (t := T) (s := N) (by omega) (by omega)
        go_wp2_with fail
        refine hc.mono ?_
        rintro e w5 ⟨rfl, x5⟩
        have o5 := o4.mod x5 (fun _ _ h => h)
        have y5 := ext_trans y4 x5
        clear hc x5 o4 y4
        by_cases hn15 : n = 1 ∨ n = 5
        case neg =>
          have b1 : (n != 1) = true := by rw [bne_iff_ne]; omega
          have b5 : (n != 5) = true := by rw [bne_iff_ne]; omega
          have hB3 : Hid (∀ x, x ∈ B ++ [begB 101 T N] ↔ isBeg T n (vals.take (k + 1)) x) := Lib.hid fun x => by rw [hsn, List.mem_append, hB.out, List.mem_singleton]; simp [hn15]
          clear hsn hB hgr
          go_wp2_with ((with_reducible show wpList _ _ _ (⟨some 53, _, _, _, _, _⟩ :: _) _ _); refine wp_appT o5 (by omega) rfl (.tmp 48) (.tmp 52) rfl rfl rfl ?_; intro u1 w6 o6 m6 n6)
          exact ⟨⟨k + 1, _, by omega, by go_num, o6, n6.fresh hf y5.size, hB3, by simp; omega, ext_app0 y5 hf m6⟩, by simp [intOf] <;> omega⟩
        have hbq : (n != 1) = false ∨ ((n != 1) = true ∧ (n != 5) = false) := by
          rcases hn15 with h | h
          · exact .inl (by rw [h]; rfl)
          · exact .inr ⟨by rw [h]; rfl, by rw [h]; rfl⟩
        have hgl := hgr hn15
        have hsn3 : Hid (∀ x, isBeg T n (vals.take (k + 1)) x ↔ x ∈ B ++ [begB 101 T N] ∨ ∃ t ∈ grm N (N.length - 2), x = begB 103 T (lx t)) := Lib.hid fun x => by rw [hsn, List.mem_append, hB.out, List.mem_singleton]; simp [hn15, or_assoc]
        clear hsn hB hgr hn15
        rcases hbq with b1 | ⟨b1, b5⟩
        all_goals
          go_wp2_with ((with_reducible show wpList _ _ _ (⟨some 53, _, _, _, _, _⟩ :: _) _ _); refine wp_appT o5 (by omega) rfl (.tmp 48) (.tmp 52) rfl rfl rfl ?_; intro u1 w6 o6 m6 n6)
          have f6 := n6.fresh hf y5.size
          have y6 := ext_app0 y5 hf m6
          have hcg := grams_any (w := w6) sortT_holds N (by omega)
          clear y5 o5 m6 n6 hf
          refine hcg.mono ?_
          rintro e w7 ⟨u8, G, rfl, o8, f8, ⟨hr8, hG8⟩, x7⟩
          have hgn := grams_len hr8 hG8
          have o7 := o6.mod x7 (fun _ _ h => h)
          have y7 := ext_trans y6 x7
          have d7 : ∀ b, own u8 b → ¬ own u1 b := fun b h8 h1 => by have e1 := f8 b h8; have e2 := o6.lt h1; omega
          have hG9 := Lib.hid hG8
          clear hG8 hr8 f8 x7 o6 y6 hcg
          obtain ⟨A8, c8, e8⟩ := o8.shape
          rw [List.length_map] at e8
          subst e8
          have hG0 : ∀ x ∈ G, x.length ≤ 8000 := fun x hx => by
            obtain ⟨t, _, e⟩ := (hG9.out x).1 hx
            rw [e]; simp [lx]
          have hgm : G.length ≤ 8000 := by omega
          go_wp2_with fail
          go_loopw [7, 63] (fun u i wr => ∃ (j : Nat) (B2 : Tx), j ≤ G.length ∧ i = .int .i64 j ∧ OwnT wr u B2 ∧ Fresh w1.heap.size u ∧ (∀ b, own (.slice A8 G.length c8) b → ¬ own u b) ∧ Hid (B2 = B ++ [begB 101 T N] ++ (G.take j).map (begB 103 T)) ∧ B2.length = B.length + 1 + j ∧ OwnT wr (.slice A8 G.length c8) G ∧ Ext w1 wr) (fun _ i _ => G.length - (intOf i).toNat)
          case atStart => exact ⟨0, _, Nat.zero_le _, rfl, o7, f6, d7, Lib.hid (by simp), by simp, o8, y7⟩
          case round =>
            clear o7 f6 d7 o8 y7
            obtain ⟨j, B2, hj, rfl, o7, f6, d7, hB2, hl2, o8, y7⟩ := hrel
            by_cases hjt : j < G.length
            case neg =>
              have hjl : decide ((j : Int) < (G.length : Int)) = false := dfalse (by omega)
              have hjn : decide (j < G.length) = false := dfalse (by omega)
              have hjj : j = G.length := by omega
              have hB3 : Hid (∀ x, x ∈ B2 ↔ isBeg T n (vals.take (k + 1)) x) := Lib.hid fun x => by
                rw [hsn3.out, hB2.out, hjj, List.take_length, List.mem_append]
                refine or_congr Iff.rfl ?_
                rw [List.mem_map]
                constructor
                · rintro ⟨y, hy, e⟩
                  obtain ⟨t, ht, e2⟩ := (hG9.out y).1 hy
                  exact ⟨t, ht, by rw [← e, e2]⟩
                · rintro ⟨t, ht, e⟩
                  exact ⟨lx t, (hG9.out _).2 ⟨t, ht, rfl⟩, e.symm⟩
              clear hG9 hsn3 hB2
              go_wp2_with fail
              exact ⟨⟨k + 1, B2, by omega, by go_num, o7, f6, hB3, by omega, y7⟩, by simp [intOf] <;> omega⟩
            have hjl : decide ((j : Int) < (G.length : Int)) = true := dtrue (by omega)
            have hjn : decide (j < G.length) = true := dtrue (by omega)
            have hj0 : (0 : Int) ≤ (j : Int) := by omega
            have hj1 : (j : Int) < (G.length : Int) := by omega
            obtain ⟨A9, c9, e9, _, _, _, h5⟩ := (o8.sl).open_
            injection e9 with e1 e2 e3
            clear e2
            subst e1
            subst e3
            obtain ⟨ag, e2, _, h6⟩ := h5.at_ hjt
            subst e2
            have hgl8 := hG0 _ (List.getElem_mem hjt)
            have htk : (G.take (j + 1)).map (begB 103 T) = (G.take j).map (begB 103 T) ++ [begB 103 T G[j]] := by rw [List.take_succ_eq_append_getElem hjt, List.map_append]; rfl
            generalize G[j] = g at hgl8 htk h6
            have hc := gram_any (w := wr) (t := T) (s := g) (by omega) (by omega)
            clear h5
            go_wp2_with fail
            refine hc.mono ?_
            rintro e w8 ⟨rfl, x8⟩
            have o9 := o7.mod x8 (fun _ _ h => h)
            have o10 := o8.mod x8 (fun _ _ h => h)
            have y9 := ext_trans y7 x8
            have hB3 : Hid (B2 ++ [begB 103 T g] = B ++ [begB 101 T N] ++ (G.take (j + 1)).map (begB 103 T)) := Lib.hid (by rw [htk, hB2.out, List.append_assoc])
            clear hc htk hB2 o7 o8 y7 x8 h6
            go_wp2_with ((with_reducible show wpList _ _ _ (⟨some 72, _, _, _, _, _⟩ :: _) _ _); refine wp_appT o9 (by omega) rfl (.tmp 67) (.tmp 71) rfl rfl rfl ?_; intro u2 w9 o11 m9 n9)
            exact ⟨⟨j + 1, _, by omega, by go_num, o11, n9.fresh f6 y9.size, fun b h8 h1 => d7 b h8 (n9.sub (o10.lt h8) h1), hB3, by simp; omega, o10.mod m9 (fun b h8 h1 => d7 b h8 h1), ext_app0 y9 f6 m9⟩, by simp [intOf] <;> omega⟩
end Go.Proofs.Ytacmbomnjedbeaa
namespace Go.Proofs.Ytacmbomnjedbeaa
open Go.RowKit Go.Maps Go.WideMaps
set_option maxRecDepth 100000

def isBegin (a : Att) (b : List UInt8) : Prop := ∃ n q, lk ⟨(foldB a.typ).toArray⟩ tyD = some (.agg #[.int .i64 n, .bool q]) ∧ a.vals ≠ [] ∧ isBeg (foldB a.typ) n a.vals b
theorem begR_iff {a : Att} {B : Tx} (h : BegR a.typ a.vals B) (x : List UInt8) : x ∈ B ↔ isBegin a x := by
  constructor
  · intro hx
    cases hl : lk ⟨(foldB a.typ).toArray⟩ tyD with
    | none => rw [h.no (.inl hl)] at hx; cases hx
    | some v =>
      obtain ⟨n, q, rfl, -, -⟩ := ty_form hl
      by_cases hv : a.vals = []
      · rw [h.no (.inr hv)] at hx; cases hx
      · exact ⟨n, q, hl, hv, (h.yes n q hl hv x).1 hx⟩
  · rintro ⟨n, q, hl, hv, hb⟩
    exact (h.yes n q hl hv x).2 hb
theorem begB_len (c : UInt8) (t n : List UInt8) (h : n.length ≤ 8000) : (begB c t n).length ≤ t.length + 20000 := by
  have := escI_len n
  unfold begB
  simp only [List.length_append, List.length_cons, List.length_nil]
  omega
theorem isBeg_len {T : List UInt8} {n : Int} {vals : List (List UInt8)} {x : List UInt8} (h : isBeg T n vals x) : x.length ≤ T.length + 20000 := by
  rcases h with h | ⟨v, _, _, h | ⟨_, t, _, h⟩⟩
  · rw [h]; unfold presB; simp only [List.length_append, List.length_cons, List.length_nil]; omega
  · rw [h]; exact begB_len _ _ _ normM_big
  · rw [h]; exact begB_len _ _ _ (by simp [lx])
/-- It is a key of these attributes, for that name. -/
def isKey (K : List UInt8) (L : List Att) (x : List UInt8) : Prop := ∃ a ∈ L, ∃ b, isBegin a b ∧ x = b ++ K
theorem isKey_next {K : List UInt8} {L : List Att} {k : Nat} (h : k < L.length) (x : List UInt8) : isKey K (L.take (k + 1)) x ↔ isKey K (L.take k) x ∨ ∃ b, isBegin L[k] b ∧ x = b ++ K := by
  unfold isKey
  rw [List.take_succ_eq_append_getElem h]
  simp only [List.mem_append, List.mem_singleton]
  constructor
  · rintro ⟨a, ha | ha, b, hb⟩
    · exact .inl ⟨a, ha, b, hb⟩
    · subst ha; exact .inr ⟨b, hb⟩
  · rintro (⟨a, ha, b, hb⟩ | ⟨b, hb⟩)
    · exact ⟨a, .inl ha, b, hb⟩
    · exact ⟨_, .inr rfl, b, hb⟩
/-- A map's keys, sorted. -/
def SortedK : Prop := ∀ {w : World} {b n : Nat} {D : DataW Unit} {L : Tx}, n ≤ 100000 → SetU w b n D → IsSet D L →
  Calls Try.prog 23 #[.map (some b)] w fun e w' => ∃ f, e = .returned f ∧ Ext w w' ∧
    Calls Try.prog 22 #[f] w' fun e w'' => ∃ u G, e = .returned u ∧ OwnT w'' u G ∧ Fresh w.heap.size u ∧ riseT G ∧ (∀ x, x ∈ G ↔ x ∈ L) ∧ Ext w w''

theorem wA_next (L : List Att) {k : Nat} (h : k < L.length) : wA (L.take (k + 1)) = wA (L.take k) + (1 + L[k].typ.length + wV L[k].vals) := by
  unfold wA
  rw [List.take_succ_eq_append_getElem h, List.map_append, List.sum_append]
  simp
theorem wA_take : ∀ (L : List Att) (k : Nat), wA (L.take k) ≤ wA L
  | [], k => by simp
  | a :: L, 0 => Nat.zero_le _
  | a :: L, k + 1 => by
    have := wA_take L k
    show 1 + a.typ.length + wV a.vals + wA (L.take k) ≤ 1 + a.typ.length + wV a.vals + wA L
    omega

set_option maxHeartbeats 16000000 in
theorem keysI_any (hS : SortedK) {w : World} {vd va : Value} {E : Ent} (hd : As w AllE vd E.dn) (ha : Ats w va E.ats) (hw : wE E ≤ 20000) :
    Calls Try.prog 9 #[.agg #[vd, va]] w fun e w' => ∃ u G, e = .returned u ∧ OwnT w' u G ∧ Fresh w.heap.size u ∧ riseT G ∧ (∀ x, x ∈ G ↔ isKey (keyB E.dn) E.ats x) ∧ Ext w w' := by
  obtain ⟨K, hK⟩ : ∃ K, K = keyB E.dn := ⟨_, rfl⟩
  obtain ⟨L, hL⟩ : ∃ L, L = E.ats := ⟨_, rfl⟩
  have hwd : wN E.dn ≤ 20000 := by have e : wE E = wN E.dn + wA E.ats := rfl; omega
  have hwa : wA E.ats ≤ 20000 := by have e : wE E = wN E.dn + wA E.ats := rfl; omega
  have hKl : K.length ≤ 100000 := by
    rw [hK]
    have h1 := partsK_len (norm E.dn)
    have h2 := norm_wN E.dn
    show (partsK (norm E.dn)).length ≤ 100000
    omega
  rw [← hK, ← hL]
  rw [← hL] at hwa ha
  have hge := wA_ge L
  obtain ⟨A, c, hva, -⟩ := ha.open_
  obtain ⟨m, hm⟩ : ∃ m, m = L.length := ⟨_, rfl⟩
  rw [← hm] at hva
  subst hva
  obtain ⟨w1, hw1⟩ : ∃ x, x = w.alloc (.cells #[vd, .slice A m c] 25) := ⟨_, rfl⟩
  obtain ⟨p, hp⟩ : ∃ p, p = w.heap.size := ⟨_, rfl⟩
  have x1 : Ext w w1 := by rw [hw1]; exact (Mod.refl _ w).alloc _
  have BP : Blk w1 p 25 #[vd, .slice A m c] := by rw [hw1, hp]; exact Blk.new w _ _
  have hpc : ∀ {wx : World}, Ext w1 wx → wx.cell? ⟨p, 1, none⟩ = some (.slice A m c) := fun x => (BP.mod x (fun h => h)).cell 1
  have p0 : w1.cell? ⟨p, 0, none⟩ = some vd := BP.cell 0
  have hM : m ≤ 20000 := by omega
  have hws : w.heap.size ≤ w1.heap.size := x1.size
  have hc := key_any (w := w1) (hd.ext x1) (by omega)
  rw [← hK] at hc
  replace hK := Lib.hid hK
  replace hL := Lib.hid hL
  replace hm := Lib.hid hm
  replace hw1 := Lib.hid hw1
  replace hp := Lib.hid hp
  have ha1 := ha.ext x1
  clear BP ha hd
  have hmm : ∀ wx : World, (Instr.makeMap 48 none).run Try.prog wx = .ok (.map (some wx.heap.size)) (wx.alloc (.map #[] 0)) := fun wx => by simp [Instr.makeMap, Result.andThen]
  go_enter Try.func9, Try.ntmps9
  go_upto_region 1 with fail
  rw [← hw1.out, ← hp.out]
  clear hw1 hp
  go_wp2_with fail
  refine hc.mono ?_
  rintro e w2 ⟨rfl, x2⟩
  have M0 : SetU (w2.alloc (.map #[] 0)) w2.heap.size 0 (.map []) := World.ownsMap_made _ _ _ _
  have y2 : Ext w1 (w2.alloc (.map #[] 0)) := x2.alloc _
  have p2 := hpc y2
  have hb1 : w1.heap.size ≤ w2.heap.size := x2.size
  go_wp2_with fail
  clear p0 hmm hc x2
  go_loopw [16] (fun i wr => ∃ (k cnt : Nat) (D : DataW Unit) (S : Tx), k ≤ m ∧ i = .int .i64 k ∧ SetU wr w2.heap.size cnt D ∧ Hid (IsSet D S) ∧ Hid (∀ x, x ∈ S ↔ isKey K (L.take k) x) ∧ cnt ≤ 3 * wA (L.take k) ∧ Ext w1 wr) (fun i _ => m - (intOf i).toNat)
  case atStart => exact ⟨0, 0, _, [], Nat.zero_le _, rfl, M0, Lib.hid isSet_none, Lib.hid (fun x => by simp [isKey]), Nat.zero_le _, y2⟩
  case round =>
    clear M0 y2 p2
    obtain ⟨k, cnt, D, S, hk, rfl, hM1, hS1, hS2, hcn, hx⟩ := hrel
    by_cases hlt : k < m
    case neg =>
      have hbl : decide ((k : Int) < (m : Int)) = false := dfalse (by omega)
      have hbn : decide (k < m) = false := dfalse (by omega)
      have hmm := hm.out
      rw [List.take_of_length_le (by omega)] at hS2
      have hc := hS (by have := wA_take L k; omega) hM1 hS1.out
      go_wp2_with fail
      refine hc.mono ?_
      rintro e w3 ⟨f, rfl, x3, hc3⟩
      go_wp2_with fail
      refine hc3.mono ?_
      rintro e w4 ⟨u, G, rfl, o4, f4, r4, m4, x4⟩
      go_wp2_with fail
      go_ret
      exact ⟨u, G, rfl, o4, f4.mono (Nat.le_trans hws hx.size), r4, fun x => (m4 x).trans (hS2.out x), ext_trans x1 (ext_trans hx x4)⟩
    have hbl : decide ((k : Int) < (m : Int)) = true := dtrue (by omega)
    have hbn : decide (k < m) = true := dtrue (by omega)
    have hi0 : (0 : Int) ≤ (k : Int) := by omega
    have hi1 : (k : Int) < (m : Int) := by omega
    have l1 : k < L.length := by have := hm.out; omega
    obtain ⟨A2, c2, e1, h5⟩ := (ha1.ext hx).open_
    injection e1 with e1 e2 e3
    clear e2
    subst e1
    subst e3
    obtain ⟨ad, y, e2, h6, h7, h8⟩ := h5 k l1
    subst e2
    have hsn := fun x => isKey_next (K := K) l1 x
    have hwn := wA_next L l1
    have hwt := wA_take L (k + 1)
    generalize hq : L[k] = q at *
    have hc := fun (wx : World) (x : Ext wr wx) => begs_any (h8.ext x) (t := q.typ) (by omega) (by omega)
    have htl := foldB_len q.typ
    obtain ⟨Ay, cy, ey, -⟩ := h8.open_
    subst ey
    clear h5 l1 hq h8
    go_wp2_with fail
    refine (hc _ ((Mod.refl _ wr).alloc _)).mono ?_
    rintro e w3 ⟨u, B, rfl, o3, f3, hR, x3⟩
    have x4 : Ext wr w3 := ext_trans ((Mod.refl _ wr).alloc _) x3
    have hbl3 := hR.len
    have hbi := begR_iff hR
    have hM3 := ownsMap_mod hM1 x4 (fun h => h)
    have hmb := hM1.lt
    have d3 : ∀ b, own u b → ¬ b = w2.heap.size := fun b hb e => by
      have h4 : wr.heap.size ≤ b := Nat.le_trans (((Mod.refl (fun _ => False) wr).alloc _).size) (f3 b hb)
      omega
    have y3 := ext_trans hx x4
    clear hc h6 h7 x3 f3 x4 hM1 hx hR
    obtain ⟨A8, c8, e8⟩ := o3.shape
    rw [List.length_map] at e8
    subst e8
    have hbm : B.length ≤ 100000 := by omega
    have hbq : ∀ x ∈ B, x.length ≤ 100000 := fun x hx => by
      obtain ⟨n, r, _, _, h⟩ := (hbi x).1 hx
      have := isBeg_len h
      omega
    have hbj := Lib.hid hbi
    have hsn2 := Lib.hid hsn
    clear hbi hsn
    go_wp2_with fail
    go_loopw [23] (fun i wr => ∃ (j : Nat) (D : DataW Unit), j ≤ B.length ∧ i = .int .i64 j ∧ SetU wr w2.heap.size (cnt + j) D ∧ Hid (IsSet D (S ++ (B.take j).map (· ++ K))) ∧ OwnT wr (.slice A8 B.length c8) B ∧ Ext w1 wr) (fun i _ => B.length - (intOf i).toNat)
    case atStart => exact ⟨0, _, Nat.zero_le _, rfl, hM3, Lib.hid (by simpa using hS1.out), o3, y3⟩
    case round =>
      clear hM3 hS1 o3 y3 D
      obtain ⟨j, D, hj, rfl, hM3, hS1, o3, y3⟩ := hrel
      by_cases hjt : j < B.length
      case neg =>
        have hjl : decide ((j : Int) < (B.length : Int)) = false := dfalse (by omega)
        have hjn : decide (j < B.length) = false := dfalse (by omega)
        have hjj : j = B.length := by omega
        have hS3 := hS1.out
        rw [hjj, List.take_length] at hS3
        have hS4 : Hid (IsSet D (S ++ B.map (· ++ K))) := Lib.hid hS3
        have hS5 : Hid (∀ x, x ∈ S ++ B.map (· ++ K) ↔ isKey K (L.take (k + 1)) x) := Lib.hid fun x => by
          rw [hsn2.out, List.mem_append, hS2.out]
          refine or_congr Iff.rfl ?_
          rw [List.mem_map]
          constructor
          · rintro ⟨z, hz, e⟩
            exact ⟨z, (hbj.out z).1 hz, e.symm⟩
          · rintro ⟨z, hz, e⟩
            exact ⟨z, (hbj.out z).2 hz, e.symm⟩
        clear hS1 hS2 hS3 hbj hsn2
        go_wp2_with fail
        exact ⟨⟨k + 1, cnt + j, D, _, by omega, by go_num, hM3, hS4, hS5, by omega, y3⟩, by simp [intOf] <;> omega⟩
      have hjl : decide ((j : Int) < (B.length : Int)) = true := dtrue (by omega)
      have hjn : decide (j < B.length) = true := dtrue (by omega)
      have hj0 : (0 : Int) ≤ (j : Int) := by omega
      have hj1 : (j : Int) < (B.length : Int) := by omega
      obtain ⟨A9, c9, e9, _, _, _, h5⟩ := (o3.sl).open_
      injection e9 with e1 e2 e3
      clear e2
      subst e1
      subst e3
      obtain ⟨ag, e2, _, h6⟩ := h5.at_ hjt
      subst e2
      have hgl := hbq _ (List.getElem_mem hjt)
      have hst : IsSet (D.put (.string (B[j] ++ K)) (.agg [])) (S ++ (B.take (j + 1)).map (· ++ K)) := by
        rw [List.take_succ_eq_append_getElem hjt, List.map_append, ← List.append_assoc]
        exact hS1.out.put _
      replace hst := Lib.hid hst
      generalize B[j] = g at hgl hst h6
      have hkey := keyOf_sv (g ++ K) (by rw [List.length_append]; omega)
      clear h5
      go_wp2_with (first
        | (at_mapUpdate; refine wpList_mapUpdate_own _ rfl _ _ _ 48 rfl 9 50 keyS Try.underlying48 _ w2.heap.size (cnt + j) _ rfl hM3 (by unfold maxLen; omega) _ _ _ rfl rfl hkey _ [] unitElem_mk ?_; intro w5 M5 g5))
      have m5 : Mod (fun b => b = w2.heap.size) wr w5 := Mod.of_grown (F := fun b => b = w2.heap.size) g5 (fun b hb => by injection hb with hb; exact hb.symm)
      have x5 : Ext w1 w5 := y3.trans m5 (fun _ _ h => h) (fun b hb h => by omega)
      have o5 := o3.mod m5 (fun b hb h => d3 b hb h)
      exact ⟨⟨j + 1, _, by omega, by go_num, M5, hst, o5, x5⟩, by simp [intOf] <;> omega⟩
end Go.Proofs.Ytacmbomnjedbeaa
namespace Go.Proofs.Ytacmbomnjedbeaa
open Go.RowKit Go.Maps Go.Shelf Go.Sort
set_option maxRecDepth 100000

def keysZ_ren : Go.Shelf.Ren := ⟨fun | 7 => 23 | 10 => 45 | n => n, fun | 23 => 48 | 26 => 9 | 3 => 50 | 28 => 53 | 0 => 0 | 27 => 52 | 33 => 68 | 4 => 4 | n => n, fun | n => n⟩
theorem keysZ : Go.Proofs.SlLaysZ.n7 Try.prog keysZ_ren := {
  mixed := by kernel_rfl
  f7 := ⟨Try.f23.name, by decide, Try.func23.trans (congrArg some (by kernel_rfl))⟩
  f10 := ⟨Try.f45.name, by decide, Try.func45.trans (congrArg some (by kernel_rfl))⟩
  t0 := Try.underlying0
  a0 := Try.isAgg0
  z0 := Try.sizeOf0
  v0 := Try.zeroValue0
  t4 := Try.underlying4
  a4 := Try.isAgg4
  z4 := Try.sizeOf4
  v4 := Try.zeroValue4
  t23 := Try.underlying48
  a23 := Try.isAgg48
  z23 := Try.sizeOf48
  v23 := Try.zeroValue48
  t26 := Try.underlying9
  a26 := Try.isAgg9
  z26 := Try.sizeOf9
  v26 := Try.zeroValue9
  t27 := Try.underlying52
  a27 := Try.isAgg52
  z27 := Try.sizeOf52
  v27 := Try.zeroValue52
  t28 := Try.underlying53
  a28 := Try.isAgg53
  z28 := Try.sizeOf53
  v28 := Try.zeroValue53
  t33 := Try.underlying68
  a33 := Try.isAgg68
  z33 := Try.sizeOf68
  v33 := Try.zeroValue68 }
def sortedZ_ren : Go.Shelf.Ren := ⟨fun | 6 => 22 | 8 => 44 | 9 => 37 | 11 => 63 | 13 => 54 | 12 => 53 | 23 => 79 | 24 => 80 | 14 => 70 | 15 => 71 | 16 => 72 | 17 => 73 | 18 => 74 | 19 => 75 | 20 => 76 | 21 => 77 | 22 => 78 | 25 => 88 | 26 => 89 | 27 => 90 | 28 => 91 | 29 => 92 | 30 => 93 | 31 => 102 | n => n, fun | 26 => 9 | 28 => 53 | 24 => 28 | 0 => 0 | 3 => 3 | 37 => 77 | 48 => 102 | 50 => 104 | 4 => 4 | 40 => 94 | 39 => 93 | 45 => 99 | 5 => 5 | 9 => 9 | 51 => 111 | 55 => 115 | 57 => 119 | 58 => 120 | 33 => 68 | n => n, fun | n => n⟩
theorem sortedZ : Go.Proofs.SlLaysZ.n6 Try.prog sortedZ_ren := {
  mixed := by kernel_rfl
  f6 := ⟨Try.f22.name, by decide, Try.func22.trans (congrArg some (by kernel_rfl))⟩
  f8 := ⟨Try.f44.name, by decide, Try.func44.trans (congrArg some (by kernel_rfl))⟩
  f11 := ⟨Try.f63.name, by decide, Try.func63.trans (congrArg some (by kernel_rfl))⟩
  t0 := Try.underlying0
  a0 := Try.isAgg0
  z0 := Try.sizeOf0
  v0 := Try.zeroValue0
  t24 := Try.underlying28
  a24 := Try.isAgg28
  z24 := Try.sizeOf28
  v24 := Try.zeroValue28
  t26 := Try.underlying9
  a26 := Try.isAgg9
  z26 := Try.sizeOf9
  v26 := Try.zeroValue9
  t28 := Try.underlying53
  a28 := Try.isAgg53
  z28 := Try.sizeOf53
  v28 := Try.zeroValue53
  i26 := by kernel_rfl }

theorem sortsZ (m : Nat) : AnyZ.SortsIn Try.prog sortedZ_ren Fence.wide m :=
  ⟨fun blk off cap ss W hH hblk hsz => callsIn_wide.2 (AnyG.slices_Sort_string sortT blk off cap ss W hH hblk hsz), fun p cap W => callsIn_wide.2 (AnyG.slices_Sort_string_none sortT p cap W)⟩
theorem nodup_of : ∀ (L : Tx), ∃ M : Tx, M.Nodup ∧ ∀ x, x ∈ M ↔ x ∈ L
  | [] => ⟨[], List.nodup_nil, fun _ => Iff.rfl⟩
  | y :: L => by
    obtain ⟨M, h1, h2⟩ := nodup_of L
    by_cases h : y ∈ M
    · exact ⟨M, h1, fun x => by rw [h2, List.mem_cons]; constructor
                                · exact .inr
                                · rintro (rfl | h3)
                                  · exact (h2 x).1 h
                                  · exact h3⟩
    · exact ⟨y :: M, List.nodup_cons.2 ⟨h, h1⟩, fun x => by rw [List.mem_cons, List.mem_cons, h2]⟩
theorem rise_of {L : Tx} (hn : L.Nodup) : riseT (L.mergeSort fun x y => decide (x ≤ y)) := by
  have h1 := List.pairwise_mergeSort (le := fun x y : List UInt8 => decide (x ≤ y)) (fun a b c h1 h2 => by simp only [decide_eq_true_eq] at *; exact List.le_trans h1 h2) (fun a b => by simp only [Bool.or_eq_true, decide_eq_true_eq]; exact List.le_total a b) L
  have h2 : (L.mergeSort fun x y => decide (x ≤ y)).Nodup := (List.mergeSort_perm L _).nodup_iff.2 hn
  refine (h1.and h2).imp fun {a b} h => ?_
  obtain ⟨h3, h4⟩ := h
  simp only [decide_eq_true_eq] at h3
  rw [bytesLess_eq, decide_eq_true_eq]
  by_cases h5 : a < b
  · exact h5
  · exact absurd (List.le_antisymm h3 (List.not_lt.1 h5)) h4
set_option maxHeartbeats 2000000 in
theorem sortedK_holds : SortedK := by
  intro w b n D L hn hown hset
  have hbl := hown.lt
  have hsz := hown.size_le
  have hseq : SeqGives Fence.wide 2 Try.prog 45 #[.pointer (some ⟨w.heap.size, 0, none⟩)] encStr (fun ss => ss.Perm (strKeys D)) (size D) (w.alloc (.cells #[.map (some b)] 48)) :=
    AnyZ.keys_gives (ρ := keysZ_ren) { keysZ with } Fence.wide _ trivial rfl (by omega) w.heap.size b n D _ (by simp) (by simp) (by
      obtain ⟨es, clock, hb, Ft, hs, hD⟩ := hown
      exact ⟨es, clock, (Below.heap_alloc _ _ b hbl).trans hb, Ft, hs, hD⟩)
  have cK : Calls Try.prog 23 #[.map (some b)] w fun e w' => e = .returned (.func (.func 45) #[] #[.pointer (some ⟨w.heap.size, 0, none⟩)]) ∧ w' = w.alloc (.cells #[.map (some b)] 48) := callsIn_wide.1 (AnyZ.keys_in keysZ Fence.wide 5 trivial rfl (some b) w)
  have cS := AnyZ.sorted_in sortedZ Fence.wide 5 trivial trivial trivial trivial rfl (by omega) (sortsZ _) (enters_of Try.func37 (by kernel_rfl) rfl) 45 #[.pointer (some ⟨w.heap.size, 0, none⟩)] trivial (enters_of Try.func45 (by kernel_rfl) rfl) _ (size D) (by unfold maxLen; omega) (by omega) _ hseq
  replace cS := callsIn_wide.1 cS
  change Calls Try.prog 22 _ _ _ at cS
  refine Calls.mono cK ?_
  rintro e w' ⟨rfl, rfl⟩
  refine ⟨_, rfl, (Mod.refl _ _).alloc _, ?_⟩
  refine Calls.mono cS ?_
  rintro e w'' ⟨v, ss, rfl, hS, hrow, hnil, hb⟩
  obtain ⟨M, hM1, hM2⟩ := nodup_of L
  have hC : Collected D (fun _ => false) M := ⟨hM1, fun x => by rw [hM2, hset.2]; simp⟩
  have hP : M.Perm (strKeys D) := hC.perm hown keyS Try.underlying9 (fun _ => rfl)
  have hQ : ss.Perm M := hS.trans hP.symm
  have hl : ss.length = ((ss.mergeSort fun x y => decide (x ≤ y)).map encStr).length := by rw [List.length_map, List.length_mergeSort]
  rw [hl] at hrow
  refine ⟨v, ss.mergeSort fun x y => decide (x ≤ y), rfl, ownsRow_base_a hrow (Nat.zero_le _), fun k hk => ?_, rise_of (hQ.nodup_iff.2 hM1), fun x => ?_, ((Mod.refl _ _).alloc _).trans (Mod.of_below hb) (fun _ _ h => h) (fun _ _ h => h)⟩
  · have := (World.ownsRow.lt hrow k hk).1
    simp at this
    omega
  · rw [(List.mergeSort_perm ss _).mem_iff, hQ.mem_iff, hM2]
end Go.Proofs.Ytacmbomnjedbeaa
namespace Go.Proofs.Ytacmbomnjedbeaa
open Go.RowKit
set_option maxRecDepth 100000

theorem Rc.lit {α : Type} {f : α → List Value} {k : Nat} (w : World) (e : TypeId) (L : List α) (hk : (L.flatMap f).length = L.length * k) (hm : (L.flatMap f).length ≤ maxLen) (hn : L.length ≤ maxLen) : Rc f k (w.alloc (.cells (L.flatMap f).toArray e)) AllE (.slice (some ⟨w.heap.size, 0, none⟩) L.length L.length) L := by
  obtain ⟨A, c, hv, _, _, _, hc⟩ := Sl.lit w e (L.flatMap f) hm
  injection hv with hv _ _
  rw [← hv] at hc
  exact ⟨_, _, rfl, Nat.le_refl _, hn, by simp, hk, fun j u hu => by obtain ⟨ad, h1, _, h3⟩ := hc j u hu; exact ⟨ad, h1, trivial, h3⟩⟩
set_option maxHeartbeats 8000000 in
theorem rise21_up {w : World} {S : Nat → Prop} {v : Value} {L : Tx} (h : Ts w S v L) (hl : L.length ≤ 9223372036854775807) (hrise : riseT L) :
    Calls Try.prog 18 #[v] w fun e w' => e = .returned (.bool true) ∧ Ext w w' := by
  obtain ⟨A, c, rfl, h1, h2, h3, h4⟩ := h.open_
  go_enter Try.func18, Try.ntmps18
  go_wp2_with fail
  go_loopw [3] (fun i wr => ∃ k : Nat, 1 ≤ k ∧ k ≤ L.length + 1 ∧ i = .int .i64 k ∧ Ext w wr) (fun i _ => L.length + 1 - (intOf i).toNat)
  case atStart => exact ⟨1, Nat.le_refl _, by omega, rfl, Mod.refl _ _⟩
  case round =>
    obtain ⟨k, hk1, hk, rfl, q3⟩ := hrel
    by_cases hlt : k < L.length
    case neg =>
      have hbl : decide ((k : Int) < (L.length : Int)) = false := dfalseI (by omega)
      go_wp2_with fail
      go_ret
      exact ⟨rfl, q3⟩
    have hbl : decide ((k : Int) < (L.length : Int)) = true := dtrueI (by omega)
    have hlk : k - 1 < L.length := by omega
    obtain ⟨ad, hA, hS, c0⟩ := (Cells.mod h4 q3 (fun _ _ _ h => h)).at_ hlt
    subst hA
    obtain ⟨bd, hB, hT, d0⟩ := (Cells.mod h4 q3 (fun _ _ _ h => h)).at_ hlk
    cases hB
    have hi0 : (0 : Int) ≤ (k : Int) := by omega
    have hi1 : (k : Int) < (L.length : Int) := by omega
    have hi2 : (0 : Int) ≤ (k : Int) - 1 := by omega
    have hi3 : (k : Int) - 1 < (L.length : Int) := by omega
    have hyx : Op.bytesLess L[k - 1] L[k] = true := List.pairwise_iff_getElem.1 hrise (k - 1) k hlk hlt (by omega)
    generalize L[k] = x at *
    generalize L[k - 1] = y at *
    have hdw : ∀ m, Ext w (wr.drewN m) := fun m => q3.drewN m
    clear hrise
    go_wp2_with fail
    go_quiet (fail)
    go_wp2_with fail
    exact ⟨⟨k + 1, by omega, by omega, by go_num, hdw _⟩, by simp [intOf] <;> omega⟩

theorem grams_some {s : List UInt8} {G : Tx} (hm : ∀ x, x ∈ G ↔ ∃ t ∈ grm s (s.length - 2), x = lx t) (h : 3 ≤ s.length) : 0 < G.length := by
  unfold grm at hm
  cases hg : (List.range (s.length - 2)) with
  | nil => 
    have := congrArg List.length hg
    simp at this
    omega
  | cons a l =>
    refine List.length_pos_of_mem ((hm (lx _)).2 ⟨_, List.mem_map.2 ⟨a, by rw [hg]; exact List.mem_cons_self, rfl⟩, rfl⟩)
set_option maxHeartbeats 16000000 in
theorem lrise_any {w : World} {vd va : Value} {E : Ent} {s : List UInt8} (hd : As w AllE vd E.dn) (ha : Ats w va E.ats) (hF : EFits E) (hwT : wE E ≤ 4611686018427387904) (hs : s.length ≤ 140737488351232) :
    Calls Try.prog 5 #[.agg #[vd, va], sv s] w fun e w' => e = .returned (.bool true) ∧ Ext w w' := by
  have hzs := sv_sizeI s
  obtain ⟨A, c, hva, -⟩ := ha.open_
  obtain ⟨A0, c0, hvd⟩ := Rc.shape hd
  obtain ⟨n1, hn1⟩ : ∃ n, n = E.ats.length := ⟨_, rfl⟩
  obtain ⟨n0, hn0⟩ : ∃ n, n = E.dn.length := ⟨_, rfl⟩
  rw [← hn1] at hva
  rw [← hn0] at hvd
  subst hva
  subst hvd
  obtain ⟨w2, hw2⟩ : ∃ x, x = w.alloc (.cells #[.slice A0 n0 c0, .slice A n1 c] 25) := ⟨_, rfl⟩
  obtain ⟨p, hp⟩ : ∃ p, p = w.heap.size := ⟨_, rfl⟩
  have x2 : Ext w w2 := by rw [hw2]; exact (Mod.refl _ w).alloc _
  have BP : Blk w2 p 25 #[.slice A0 n0 c0, .slice A n1 c] := by rw [hw2, hp]; exact Blk.new w _ _
  have hcc : ∀ {wx : World}, Ext w2 wx → wx.cell? ⟨p, 0, none⟩ = some (.slice A0 n0 c0) ∧ wx.cell? ⟨p, 1, none⟩ = some (.slice A n1 c) := fun x => ⟨(BP.mod x (fun h => h)).cell 0, (BP.mod x (fun h => h)).cell 1⟩
  obtain ⟨p0, p1⟩ := hcc (Mod.refl _ w2)
  obtain ⟨w3, hw3⟩ : ∃ x, x = w2.alloc (.cells #[.slice A0 n0 c0, .slice A n1 c] 25) := ⟨_, rfl⟩
  obtain ⟨g, hg⟩ : ∃ p, p = w2.heap.size := ⟨_, rfl⟩
  have x3 : Ext w2 w3 := by rw [hw3]; exact (Mod.refl _ w2).alloc _
  have y3 := ext_trans x2 x3
  have hE : Ents w3 (.slice (some ⟨g, 0, none⟩) 1 1) [E] := by
    refine ⟨[(.slice A0 n0 c0, .slice A n1 c)], ?_, rfl, fun k x e' hx he => ?_⟩
    · have h := Rc.lit (f := enc2) (k := 2) w2 25 [((.slice A0 n0 c0, .slice A n1 c) : EnV)] rfl (by simp [maxLen]) (by simp [maxLen])
      rw [hw3, hg]
      exact h
    · match k, hx, he with
      | 0, hx, he =>
        simp at hx he
        subst hx; subst he
        exact ⟨hd.ext y3, ha.ext y3⟩
      | k + 1, hx, he => simp at hx
  have hgr := great20_any hE (by simp) (fun x hx => by rw [List.mem_singleton.1 hx]; exact hF)
  have hT : sumF wE [E] = wE E := by simp [sumF]
  rw [hT] at hgr
  have hax := fun {wx : World} (x : Ext w2 wx) => And.intro (hd.ext (ext_trans x2 x)) (ha.ext (ext_trans x2 x))
  replace hw2 := Lib.hid hw2
  replace hp := Lib.hid hp
  replace hw3 := Lib.hid hw3
  replace hg := Lib.hid hg
  replace hn1 := Lib.hid hn1
  replace hn0 := Lib.hid hn0
  clear hd ha hE hT y3 BP hF
  go_enter Try.func5, Try.ntmps5
  go_upto_region 1 with fail
  rw [← hw2.out, ← hp.out]
  clear hw2 hp
  go_wp2_with fail
  rw [← hw3.out, ← hg.out]
  refine hgr.mono ?_
  rintro e' w4 ⟨⟨r, rfl, hr⟩, x4⟩
  have y4 := ext_trans x3 x4
  clear hgr hw3 hg x3 x4 p0 p1
  cases r
  case true =>
    clear hr
    go_wp2_with fail
    go_ret
    exact ⟨rfl, ext_trans x2 y4⟩
  have hT4 : wE E ≤ 4000 := by
    have h := hr hwT
    exact Nat.le_of_not_lt (of_decide_eq_false h.symm)
  clear hr hwT
  by_cases h600 : 600 < s.length
  · have hb6 : decide ((600 : Int) < (s.length : Int)) = true := dtrueI (by omega)
    go_wp2_with fail
    go_ret
    exact ⟨rfl, ext_trans x2 y4⟩
  have hb6 : decide ((600 : Int) < (s.length : Int)) = false := dfalseI (by omega)
  have hc := grams_any (w := w4) sortT_holds s (by omega)
  go_wp2_with fail
  refine hc.mono ?_
  rintro e w5 ⟨u, G, rfl, o5, f5, ⟨hr5, hG5⟩, x5⟩
  have hgl := grams_len hr5 hG5
  have hgs := grams_some hG5
  have y5 := ext_trans y4 x5
  have hg3 : ∀ x ∈ G, x.length = 3 := fun x hx => by
    obtain ⟨t, _, e⟩ := (hG5 x).1 hx
    rw [e]; simp [lx]
  clear hc hG5 f5 x5 y4
  obtain ⟨A8, c8, e8⟩ := o5.shape
  rw [List.length_map] at e8
  subst e8
  go_wp2_with fail
  go_loopw [6] (fun i wr => ∃ k : Nat, k ≤ G.length ∧ i = .int .i64 k ∧ OwnT wr (.slice A8 G.length c8) G ∧ Ext w2 wr) (fun i _ => G.length - (intOf i).toNat)
  case atStart => exact ⟨0, Nat.zero_le _, rfl, o5, y5⟩
  case round =>
    clear o5 y5
    obtain ⟨k, hk, rfl, o5, y5⟩ := hrel
    by_cases hlt : k < G.length
    case neg =>
      have hbl : decide ((k : Int) < (G.length : Int)) = false := dfalse (by omega)
      have hbn : decide (k < G.length) = false := dfalse (by omega)
      have q0 := (hcc y5).1
      have q1 := (hcc y5).2
      have hc := keysI_any sortedK_holds (w := wr) (hax y5).1 (hax y5).2 (by omega)
      go_wp2_with fail
      refine hc.mono ?_
      rintro e w6 ⟨u2, K, rfl, o6, f6, r6, m6, x6⟩
      have o7 := o5.mod x6 (fun _ _ h => h)
      have y6 := ext_trans y5 x6
      clear hc m6 o5 x6 y5 q0 q1
      have hK : K.length ≤ 9223372036854775807 := by
        rcases o6.form with ⟨_, e⟩ | ⟨g, cap, _, h1, h2, _⟩
        · have := congrArg List.length e
          rw [List.length_map] at this
          rw [this]; simp
        · rw [List.length_map] at h1
          unfold maxLen at h2
          omega
      have hc := rise21_up o6.sl hK r6
      go_wp2_with fail
      refine hc.mono ?_
      rintro e w7 ⟨rfl, x7⟩
      have hc := rise21_up (o7.mod x7 (fun _ _ h => h)).sl (by omega) hr5
      go_wp2_with fail
      refine hc.mono ?_
      rintro e w8 ⟨rfl, x8⟩
      have y8 := ext_trans y6 (ext_trans x7 x8)
      have hk := known21_holds w8
      clear hc x7 x8 y6 o6 o7 hr5 hg3 hcc hax
      by_cases h3 : s.length < 3
      · have b3 : decide ((s.length : Int) < 3) = true := dtrue (by omega)
        have hg0 : G.length = 0 := by omega
        go_wp2_with fail
        refine hk.mono ?_
        rintro e w9 ⟨rfl, x9⟩
        go_wp2_with fail
        go_ret
        exact ⟨rfl, ext_trans x2 (ext_trans y8 x9)⟩
      have b3 : decide ((s.length : Int) < 3) = false := dfalse (by omega)
      have hg0 := hgs (by omega)
      have b4 : decide ((0 : Int) < (G.length : Int)) = true := dtrue (by omega)
      go_wp2_with fail
      refine hk.mono ?_
      rintro e w9 ⟨rfl, x9⟩
      go_wp2_with fail
      go_ret
      exact ⟨rfl, ext_trans x2 (ext_trans y8 x9)⟩
    have hbl : decide ((k : Int) < (G.length : Int)) = true := dtrue (by omega)
    have hbn : decide (k < G.length) = true := dtrue (by omega)
    have hi0 : (0 : Int) ≤ (k : Int) := by omega
    have hi1 : (k : Int) < (G.length : Int) := by omega
    obtain ⟨A9, c9, e9, _, _, _, h5⟩ := (o5.sl).open_
    injection e9 with e1 e2 e3
    clear e2
    subst e1
    subst e3
    obtain ⟨ag, e2, _, h6⟩ := h5.at_ hlt
    subst e2
    have hg0 := hg3 _ (List.getElem_mem hlt)
    generalize G[k] = x at hg0 h6
    have hz := sv_sizeI x
    rw [hg0] at hz
    clear h5
    go_wp2_with fail
    exact ⟨⟨k + 1, by omega, by go_num, o5, y5⟩, by simp [intOf] <;> omega⟩
end Go.Proofs.Ytacmbomnjedbeaa
