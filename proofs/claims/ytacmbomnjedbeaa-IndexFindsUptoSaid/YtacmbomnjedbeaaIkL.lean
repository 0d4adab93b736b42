/- index: the law IndexFinds. -/
import Derived.Test.YtacmbomnjedbeaaIkI
namespace Go.Proofs.Ytacmbomnjedbeaa
open Go.RowKit
set_option maxRecDepth 100000

theorem esc0 (b : UInt8) (a : List UInt8) : escI (b :: a) = (if b = 0 then [0, 255] else [b]) ++ escI a := rfl
theorem escI_inj : ∀ {a b : List UInt8}, escI a = escI b → a = b
  | [], [], _ => rfl
  | [], y :: b, h => by rw [esc0] at h; split at h <;> cases h
  | x :: a, [], h => by rw [esc0] at h; split at h <;> cases h
  | x :: a, y :: b, h => by
    rw [esc0, esc0] at h
    by_cases hx : x = 0 <;> by_cases hy : y = 0
    · rw [if_pos hx, if_pos hy] at h
      rw [hx, hy, escI_inj (List.append_cancel_left h)]
    · rw [if_pos hx, if_neg hy] at h
      injection h with h _
      exact absurd h.symm hy
    · rw [if_neg hx, if_pos hy] at h
      injection h with h _
      exact absurd h hx
    · rw [if_neg hx, if_neg hy] at h
      injection h with h1 h2
      rw [h1, escI_inj h2]
theorem split0 : ∀ {T U X Y : List UInt8}, (0 : UInt8) ∉ T → (0 : UInt8) ∉ U → T ++ 0 :: X = U ++ 0 :: Y → T = U ∧ X = Y
  | [], [], _, _, _, _, h => ⟨rfl, by injection h⟩
  | [], y :: U, _, _, _, h2, h => by injection h with h _; exact absurd (by rw [← h]; exact List.mem_cons_self) h2
  | x :: T, [], _, _, h1, _, h => by injection h with h _; exact absurd (by rw [h]; exact List.mem_cons_self) h1
  | x :: T, y :: U, _, _, h1, h2, h => by
    injection h with h3 h4
    obtain ⟨h5, h6⟩ := split0 (fun h => h1 (List.mem_cons_of_mem _ h)) (fun h => h2 (List.mem_cons_of_mem _ h)) h4
    exact ⟨by rw [h3, h5], h6⟩
theorem begB_inj {c d : UInt8} {T U m n : List UInt8} (h1 : (0 : UInt8) ∉ T) (h2 : (0 : UInt8) ∉ U) (h : begB c T m = begB d U n) : c = d ∧ T = U ∧ m = n := by
  unfold begB at h
  simp only [List.append_assoc, List.cons_append, List.nil_append] at h
  injection h with h3 h4
  obtain ⟨h5, h6⟩ := split0 h1 h2 h4
  exact ⟨h3, h5, escI_inj (List.append_cancel_right h6)⟩
theorem types_no0 : ∀ t ∈ typesL, (0 : UInt8) ∉ t := by
  have h : typesL.all (fun t => !t.contains 0) = true := by kernel_rfl
  intro t ht h0
  have := List.all_eq_true.1 h t ht
  rw [Bool.not_eq_true', ← Bool.not_eq_true, List.contains_iff_mem] at this
  exact this h0
def cnT : List UInt8 := [99, 110]
theorem lk_cn {n : Int} {q : Bool} (h : lk ⟨cnT.toArray⟩ tyD = some (.agg #[.int .i64 n, .bool q])) : n = 1 := by
  have e : lk ⟨cnT.toArray⟩ tyD = some (.agg #[.int .i64 1, .bool false]) := by kernel_rfl
  rw [e] at h
  injection h with h
  injection h with h
  have h1 := congrArg (fun (a : Array Value) => a[0]?) h
  simp at h1
  exact h1.symm
theorem mem_of_lk {T : List UInt8} {v : Value} (h : lk ⟨T.toArray⟩ tyD = some v) : T ∈ typesL := (lk_in h).1
/-- Some attribute cn has a value that is equal. -/
def Wants (val : List UInt8) (L : List Att) : Prop := ∃ a ∈ L, foldB a.typ = cnT ∧ ∃ v ∈ a.vals, equalM 1 v val = true
theorem finds_iff {L : List Att} {K N val : List UInt8} (hN : normM 1 val = (N, true)) : isKey K L (begB 101 cnT N ++ K) ↔ Wants val L := by
  have h0 : (0 : UInt8) ∉ cnT := by decide
  constructor
  · rintro ⟨a, ha, b, ⟨n, q, hl, hv, hb⟩, e⟩
    have hb' := List.append_cancel_right e
    have ht := mem_of_lk hl
    rcases hb with hb | ⟨v, hv2, h2, hb | ⟨_, t, _, hb⟩⟩
    · rw [hb] at hb'
      unfold begB presB at hb'
      simp at hb'
    · rw [hb] at hb'
      obtain ⟨-, h4, h5⟩ := begB_inj h0 (types_no0 _ ht) hb'
      rw [← h4] at hl
      have hn := lk_cn hl
      subst hn
      refine ⟨a, ha, h4.symm, v, hv2, ?_⟩
      unfold equalM
      rw [h2, hN, ← h5]
      simp
    · rw [hb] at hb'
      obtain ⟨h3, -, -⟩ := begB_inj h0 (types_no0 _ ht) hb'
      cases h3
  · rintro ⟨a, ha, h1, v, hv, h2⟩
    have e : lk ⟨cnT.toArray⟩ tyD = some (.agg #[.int .i64 1, .bool false]) := by kernel_rfl
    unfold equalM at h2
    rw [hN] at h2
    simp only [Bool.and_eq_true, beq_iff_eq, true_and] at h2
    refine ⟨a, ha, begB 101 cnT N, ⟨1, false, by rw [h1]; exact e, List.ne_nil_of_mem hv, .inr ⟨v, hv, h2.1, .inl ?_⟩⟩, rfl⟩
    rw [h1, h2.2]
set_option maxHeartbeats 4000000 in
theorem requal_any {w : World} (k : Int) (a b : List UInt8) (ha : a.length ≤ 140737488351232) (hb : b.length ≤ 140737488351232) :
    Calls Try.prog 14 #[.int .i64 k, sv a, sv b] w fun e w' => e = .returned (.bool (equalM k a b)) ∧ Ext w w' := by
  have hc := rmnorm_any (w := w) k a ha
  have hc2 := fun w1 : World => rmnorm_any (w := w1) k b hb
  obtain ⟨R, hR⟩ : ∃ R, R = equalM k a b := ⟨_, rfl⟩
  rw [← hR]
  unfold equalM at hR
  generalize normM k a = p at *
  generalize normM k b = q at *
  obtain ⟨x, ok⟩ := p
  obtain ⟨y, is⟩ := q
  simp only at hc hc2 hR
  replace hR := Lib.hid hR
  go_enter Try.func14, Try.ntmps14
  go_wp2_with fail
  refine hc.mono ?_
  rintro e w1 ⟨rfl, x1⟩
  clear hc
  go_wp2_with fail
  refine (hc2 w1).mono ?_
  rintro e w2 ⟨rfl, x2⟩
  clear hc2
  cases ok <;> cases is
  all_goals
    go_wp2_with fail
    go_ret
    rw [hR.out]
    exact ⟨rfl, ext_trans x1 x2⟩

set_option maxHeartbeats 32000000 in
theorem lfinds_any {w : World} {vd va : Value} {E : Ent} {s : List UInt8} (hd : As w AllE vd E.dn) (ha : Ats w va E.ats) (hF : EFits E) (hwT : wE E ≤ 4611686018427387904) (hs : s.length ≤ 140737488351232) :
    Calls Try.prog 4 #[.agg #[vd, va], sv s] w fun e w' => e = .returned (.bool true) ∧ Ext w w' := by
  have hzs := sv_sizeI s
  obtain ⟨A, c, hva, -⟩ := ha.open_
  obtain ⟨A0, c0, hvd⟩ := Rc.shape hd
  obtain ⟨n1, hn1⟩ : ∃ n, n = E.ats.length := ⟨_, rfl⟩
  obtain ⟨n0, hn0⟩ : ∃ n, n = E.dn.length := ⟨_, rfl⟩
  rw [← hn1] at hva
  rw [← hn0] at hvd
  subst hva
  subst hvd
  obtain ⟨w2, hw2⟩ : ∃ x, x = w.alloc (.cells #[.slice A0 n0 c0, .slice A n1 c] 25) := ⟨_, rfl⟩
  obtain ⟨p, hp⟩ : ∃ p, p = w.heap.size := ⟨_, rfl⟩
  have x2 : Ext w w2 := by rw [hw2]; exact (Mod.refl _ w).alloc _
  have BP : Blk w2 p 25 #[.slice A0 n0 c0, .slice A n1 c] := by rw [hw2, hp]; exact Blk.new w _ _
  have hcc : ∀ {wx : World}, Ext w2 wx → wx.cell? ⟨p, 0, none⟩ = some (.slice A0 n0 c0) ∧ wx.cell? ⟨p, 1, none⟩ = some (.slice A n1 c) := fun x => ⟨(BP.mod x (fun h => h)).cell 0, (BP.mod x (fun h => h)).cell 1⟩
  obtain ⟨p0, p1⟩ := hcc (Mod.refl _ w2)
  obtain ⟨w3, hw3⟩ : ∃ x, x = w2.alloc (.cells #[.slice A0 n0 c0, .slice A n1 c] 25) := ⟨_, rfl⟩
  obtain ⟨g, hg⟩ : ∃ p, p = w2.heap.size := ⟨_, rfl⟩
  have x3 : Ext w2 w3 := by rw [hw3]; exact (Mod.refl _ w2).alloc _
  have y3 := ext_trans x2 x3
  have hE : Ents w3 (.slice (some ⟨g, 0, none⟩) 1 1) [E] := by
    refine ⟨[(.slice A0 n0 c0, .slice A n1 c)], ?_, rfl, fun k x e' hx he => ?_⟩
    · have h := Rc.lit (f := enc2) (k := 2) w2 25 [((.slice A0 n0 c0, .slice A n1 c) : EnV)] rfl (by simp [maxLen]) (by simp [maxLen])
      rw [hw3, hg]
      exact h
    · match k, hx, he with
      | 0, hx, he =>
        simp at hx he
        subst hx; subst he
        exact ⟨hd.ext y3, ha.ext y3⟩
      | k + 1, hx, he => simp at hx
  have hgr := great20_any hE (by simp) (fun x hx => by rw [List.mem_singleton.1 hx]; exact hF)
  have hT : sumF wE [E] = wE E := by simp [sumF]
  rw [hT] at hgr
  have hax := fun {wx : World} (x : Ext w2 wx) => And.intro (hd.ext (ext_trans x2 x)) (ha.ext (ext_trans x2 x))
  replace hw2 := Lib.hid hw2
  replace hp := Lib.hid hp
  replace hw3 := Lib.hid hw3
  replace hg := Lib.hid hg
  replace hn1 := Lib.hid hn1
  replace hn0 := Lib.hid hn0
  clear hd ha hE hT y3 BP hF
  go_enter Try.func4, Try.ntmps4
  go_upto_region 1 with fail
  rw [← hw2.out, ← hp.out]
  clear hw2 hp
  go_wp2_with fail
  rw [← hw3.out, ← hg.out]
  refine hgr.mono ?_
  rintro e' w4 ⟨⟨r, rfl, hr⟩, x4⟩
  have y4 := ext_trans x3 x4
  clear hgr hw3 hg x3 x4 p0 p1
  cases r
  case true =>
    clear hr
    go_wp2_with fail
    go_ret
    exact ⟨rfl, ext_trans x2 y4⟩
  have hT4 : wE E ≤ 4000 := by
    have h := hr hwT
    exact Nat.le_of_not_lt (of_decide_eq_false h.symm)
  clear hr hwT
  by_cases h600 : 256 < s.length
  · have hb6 : decide ((256 : Int) < (s.length : Int)) = true := dtrueI (by omega)
    go_wp2_with fail
    go_ret
    exact ⟨rfl, ext_trans x2 y4⟩
  have hb6 : decide ((256 : Int) < (s.length : Int)) = false := dfalseI (by omega)
  have h4 := keysI_any sortedK_holds (w := w4) (hax y4).1 (hax y4).2 (by omega)
  obtain ⟨q0, q1⟩ := hcc y4
  go_wp2_with fail
  refine h4.mono ?_
  rintro e w5 ⟨u5, G, rfl, o5, f5, r5, m5, x5⟩
  have y5 := ext_trans y4 x5
  have hc := rmnorm_any (w := w5) 1 s (by omega)
  have hN8 := normM_big (n := 1) (s := s)
  have hGl : G.length ≤ 9223372036854775807 := by
    rcases o5.form with ⟨_, e⟩ | ⟨g, cap, _, h1, h2, _⟩
    · have := congrArg List.length e
      rw [List.length_map] at this
      rw [this]; simp
    · rw [List.length_map] at h1
      unfold maxLen at h2
      omega
  obtain ⟨A8, c8, e8⟩ := o5.shape
  rw [List.length_map] at e8
  subst e8
  obtain ⟨R, hR⟩ : ∃ R, R = normM 1 s := ⟨_, rfl⟩
  rw [← hR] at hc hN8
  obtain ⟨N, ok⟩ := R
  replace hR := Lib.hid hR.symm
  clear h4 q0 q1 x5 f5 r5 y4
  go_wp2_with fail
  refine hc.mono ?_
  rintro e w6 ⟨rfl, x6⟩
  have y6 := ext_trans y5 x6
  have o6 := o5.mod x6 (fun _ _ h => h)
  clear hc x6 y5 o5
  cases ok with
  | false =>
    have hk := known21_holds w6
    go_wp2_with fail
    refine hk.mono ?_
    rintro e w7 ⟨rfl, x7⟩
    go_wp2_with fail
    go_ret
    exact ⟨rfl, ext_trans x2 (ext_trans y6 x7)⟩
  | true =>
    have hm5 := Lib.hid m5
    clear m5
    have hn2 := Lib.hid hn1.out
    have hM : n1 ≤ 4000 := by
      have h1 := wA_ge E.ats
      have e : wE E = wD E.dn + wA E.ats := rfl
      have h2 := hn1.out
      omega
    have hwa : wA E.ats ≤ 4000 := by have e : wE E = wD E.dn + wA E.ats := rfl; omega
    obtain ⟨L, hL⟩ : ∃ L, L = E.ats := ⟨_, rfl⟩
    rw [← hL] at hwa hm5 hax hn2
    replace hL := Lib.hid hL
    go_wp2_with fail
    go_loopw [8, 9] (fun b i wr => ∃ (k : Nat) (r : Bool), k ≤ n1 ∧ i = .int .i64 k ∧ b = .bool r ∧ Hid (r = true ↔ Wants s (L.take k)) ∧ OwnT wr (.slice A8 G.length c8) G ∧ Ext w2 wr) (fun _ i _ => n1 - (intOf i).toNat)
    case atStart => exact ⟨0, false, Nat.zero_le _, rfl, rfl, Lib.hid (by simp [Wants]), o6, y6⟩
    case round =>
      clear o6 y6
      obtain ⟨k, r, hk, rfl, rfl, hr, o6, y6⟩ := hrel
      have q1 := (hcc y6).2
      by_cases hlt : k < n1
      case neg =>
        have hbl : decide ((k : Int) < (n1 : Int)) = false := dfalse (by omega)
        have hbn : decide (k < n1) = false := dfalse (by omega)
        have hr2 : Hid (r = true ↔ Wants s L) := Lib.hid (by
          have e : L.take k = L := List.take_of_length_le (by have := hn2.out; omega)
          have := hr.out
          rwa [e] at this)
        have q0 := fun {wx : World} (x : Ext w2 wx) => (hcc x).1
        have hdn := fun {wx : World} (x : Ext w2 wx) => ((hax x).1).mono (T := fun b => b < wx.heap.size) (fun _ hb _ => hb)
        obtain ⟨P, hP⟩ : ∃ P, P = begB 101 cnT N := ⟨_, rfl⟩
        obtain ⟨K, hK⟩ : ∃ K, K = keyB E.dn := ⟨_, rfl⟩
        have hwd : wN E.dn ≤ 4000 := by have e : wE E = wN E.dn + wA E.ats := rfl; omega
        have hKl : K.length ≤ 100000 := by
          rw [hK]
          have h1 := partsK_len (norm E.dn)
          have h2 := norm_wN E.dn
          show (partsK (norm E.dn)).length ≤ 100000
          omega
        have hPl : P.length ≤ 100000 := by
          rw [hP]
          have := begB_len 101 cnT N (by omega)
          have e : cnT.length = 2 := rfl
          omega
        have hR3 : Hid (P ++ K ∈ G ↔ r = true) := Lib.hid (by
          rw [hr2.out, hm5.out, hP, ← hK]
          exact finds_iff hR.out)
        have h7 : ∀ wx : World, Calls Try.prog 15 #[sv [99, 110], sv N] wx fun e w' => e = .returned (sv P) ∧ Ext wx w' := fun wx => by
          rw [hP]
          exact equalI_any (w := wx) (t := cnT) (s := N) (by decide) (by omega)
        have h8 := fun {wx : World} (x : Ext w2 wx) => rkey_any (w := wx) (hdn x) (by omega)
        have hkn := fun wx : World => known21_holds wx
        rw [← hK] at h8
        replace hP := Lib.hid hP
        replace hK := Lib.hid hK
        clear hr hr2 hax hdn hm5
        go_wp2_with fail
        go_loopw [15, 16] (fun b i wr => ∃ (j : Nat) (z : Bool), j ≤ G.length ∧ i = .int .i64 j ∧ b = .bool z ∧ Hid (z = true ↔ P ++ K ∈ G.take j) ∧ OwnT wr (.slice A8 G.length c8) G ∧ Ext w2 wr) (fun _ i _ => G.length - (intOf i).toNat)
        case atStart => exact ⟨0, false, Nat.zero_le _, rfl, rfl, Lib.hid (by simp), o6, y6⟩
        case round =>
          clear o6 y6 q1
          obtain ⟨j, z, hj, rfl, rfl, hz, o6, y6⟩ := hrel
          by_cases hjt : j < G.length
          case neg =>
            have hjl : decide ((j : Int) < (G.length : Int)) = false := dfalse (by omega)
            have hjn : decide (j < G.length) = false := dfalse (by omega)
            have hzr : z = r := by
              have e : G.take j = G := List.take_of_length_le (by omega)
              have h := hz.out
              rw [e] at h
              have h2 := h.trans hR3.out
              cases z <;> cases r <;> simp_all
            subst hzr
            clear hz hR3
            cases z
            all_goals
              go_wp2_with fail
              refine (hkn _).mono ?_
              rintro e w8 ⟨rfl, x8⟩
              go_wp2_with fail
              go_ret
              exact ⟨rfl, ext_trans x2 (ext_trans y6 x8)⟩
          have hjl : decide ((j : Int) < (G.length : Int)) = true := dtrue (by omega)
          have hjn : decide (j < G.length) = true := dtrue (by omega)
          have hj0 : (0 : Int) ≤ (j : Int) := by omega
          have hj1 : (j : Int) < (G.length : Int) := by omega
          obtain ⟨A9, c9, e9, _, _, _, h5⟩ := (o6.sl).open_
          injection e9 with e1 e2 e3
          clear e2
          subst e1
          subst e3
          obtain ⟨ag, e2, _, h6⟩ := h5.at_ hjt
          subst e2
          have htk : P ++ K ∈ G.take (j + 1) ↔ P ++ K ∈ G.take j ∨ G[j] = P ++ K := by
            rw [List.take_succ_eq_append_getElem hjt, List.mem_append, List.mem_singleton]
            exact or_congr Iff.rfl ⟨Eq.symm, Eq.symm⟩
          have h6x : ∀ {wx : World}, Ext wr wx → wx.cell? (ag.add j) = some (sv G[j]) := fun x => ext_cell x h6
          generalize G[j] = x at *
          have htk2 := Lib.hid htk
          clear htk h5 h6
          cases z with
          | true =>
            have hz2 : Hid (true = true ↔ P ++ K ∈ G.take (j + 1)) := Lib.hid ⟨fun _ => htk2.out.2 (.inl (hz.out.1 rfl)), fun _ => rfl⟩
            have hdw : ∀ m, OwnT (wr.drewN m) (.slice (some ag) G.length c8) G ∧ Ext w2 (wr.drewN m) := fun m => ⟨o6.drewN m, y6.drewN m⟩
            clear hz htk2 hR3 h7 h8 o6 y6
            go_wp2_with fail
            go_quiet (fail)
            go_wp2_with fail
            exact ⟨⟨j + 1, true, by omega, by go_num, rfl, Lib.hid (by simpa using hz2.out), (hdw _).1, (hdw _).2⟩, by simp [intOf] <;> omega⟩
          | false =>
            have hz2 : Hid ((x == P ++ K) = true ↔ P ++ K ∈ G.take (j + 1)) := Lib.hid (by
              rw [htk2.out, beq_iff_eq]
              refine ⟨.inr, fun h => ?_⟩
              rcases h with h | h
              · have := hz.out.2 h; cases this
              · exact h)
            have s1 : ¬ 9223372036854775807 < P.length + K.length := by omega
            clear hz htk2 hR3
            have h6y := h6x (Mod.refl _ wr)
            have q0y := q0 y6
            go_upto_region 20 with fail
            have z0 : Ext wr wr.drew := (Mod.refl _ wr).drew
            have hcell : ∀ {wx : World}, Ext wr wx → wx.cell? (ag.add j) = some (sv x) ∧ wx.cell? ⟨p, 0, none⟩ = some (.slice A0 n0 c0) := fun y => ⟨h6x y, q0 (ext_trans y6 y)⟩
            go_region_held3 (fun wx => wx.cell? (ag.add j) = some (sv x) ∧ wx.cell? ⟨p, 0, none⟩ = some (.slice A0 n0 c0)) (first | exact hcell z0 | exact hcell z1 | exact hcell z2) (first
              | (go_at_call 16; (with_reducible refine (h8 (ext_trans y6 z1)).mono ?_); rintro e8 w8 ⟨rfl, x8⟩; have z2 := ext_trans z1 x8)
              | (go_at_call 15; (with_reducible refine (h7 _).mono ?_); rintro e7 w7 ⟨rfl, x7⟩; have z1 := ext_trans z0 x7))
            go_wp2_with fail
            exact ⟨⟨j + 1, _, by omega, by go_num, rfl, Lib.hid (by rw [cat_data]; simpa using hz2.out), o6.mod z2 (fun _ _ h => h), ext_trans y6 z2⟩, by simp [intOf] <;> omega⟩
      have hbl : decide ((k : Int) < (n1 : Int)) = true := dtrue (by omega)
      have hbn : decide (k < n1) = true := dtrue (by omega)
      have hi0 : (0 : Int) ≤ (k : Int) := by omega
      have hi1 : (k : Int) < (n1 : Int) := by omega
      have l1 : k < L.length := by have := hn2.out; omega
      obtain ⟨A2, c2, e1, h5⟩ := ((hax y6).2).open_
      injection e1 with e1 e2 e3
      clear e2
      subst e1
      subst e3
      obtain ⟨ad, y, e2, h6, h7, h8⟩ := h5 k l1
      subst e2
      have hwn := wA_next L l1
      have hwt := wA_take L (k + 1)
      have hws : Wants s (L.take (k + 1)) ↔ Wants s (L.take k) ∨ (foldB L[k].typ = cnT ∧ ∃ v ∈ L[k].vals, equalM 1 v s = true) := by
        unfold Wants
        rw [List.take_succ_eq_append_getElem l1]
        simp only [List.mem_append, List.mem_singleton]
        constructor
        · rintro ⟨a, ha | rfl, h⟩
          · exact .inl ⟨a, ha, h⟩
          · exact .inr h
        · rintro (⟨a, ha, h⟩ | h)
          · exact ⟨a, .inl ha, h⟩
          · exact ⟨_, .inr rfl, h⟩
      generalize L[k].typ = t at *
      generalize L[k].vals = V at *
      have hge2 := wV_ge V
      have hvl : ∀ v ∈ V, v.length ≤ 4000 := fun v hv => by have := wV_mem hv; omega
      obtain ⟨n, is, T2, q, hc, hok⟩ : ∃ (n : Int) (ok : Bool) (T2 : List UInt8) (q : Bool), (Calls Try.prog 13 #[sv t] wr fun e w' => e = .returned (.tuple #[sv T2, .int .i64 n, .bool q, .bool ok]) ∧ Ext wr w') ∧ ((ok && (T2 == cnT)) = true ↔ foldB t = cnT) := by
        by_cases ht : foldB t ∈ typesL
        · exact ⟨_, _, _, _, rtype_yes (by omega) ht, by simp⟩
        · exact ⟨_, _, [], _, rtype_no (by omega) ht, by
            simp
            intro h
            rw [h] at ht
            exact ht (by decide)⟩
      obtain ⟨Ay, cy, ey, -, -, -, -⟩ := h8.open_
      subst ey
      have hvx : ∀ {wx : World}, Ext wr wx → wx.cell? ⟨(ad.add (k * 2)).block, (ad.add (k * 2)).off + 1, none⟩ = some (.slice Ay V.length cy) := fun x => ext_cell x h7
      obtain ⟨M, hM2⟩ : ∃ N, N = V.length := ⟨_, rfl⟩
      have hM4 : M ≤ 4000 := by omega
      rw [← hM2] at h8 hvx
      replace hok := Lib.hid hok
      replace hws := Lib.hid hws
      replace hM2 := Lib.hid hM2
      clear h5 h7
      go_wp2_with fail
      refine hc.mono ?_
      rintro e w7 ⟨rfl, x7⟩
      have y7 := ext_trans y6 x7
      have o7 := o6.mod x7 (fun _ _ h => h)
      clear hc h6 q1 o6
      go_wp2_with fail
      go_loopw [8, 14] (fun b i wr' => ∃ (j : Nat) (r' : Bool), j ≤ M ∧ i = .int .i64 j ∧ b = .bool r' ∧ Hid (r' = true ↔ Wants s (L.take k) ∨ (foldB t = cnT ∧ ∃ v ∈ V.take j, equalM 1 v s = true)) ∧ OwnT wr' (.slice A8 G.length c8) G ∧ Ext wr wr') (fun _ i _ => M - (intOf i).toNat)
      case atStart => exact ⟨0, r, Nat.zero_le _, rfl, rfl, Lib.hid (by simpa using hr.out), o7, x7⟩
      case round =>
        clear o7 x7 y7 hr
        obtain ⟨j, r', hj, rfl, rfl, hr, o7, x7⟩ := hrel
        have y7 := ext_trans y6 x7
        have q1 := (hcc y7).2
        have v7 := hvx x7
        by_cases hjt : j < M
        case neg =>
          have hjl : decide ((j : Int) < (M : Int)) = false := dfalse (by omega)
          have hjn : decide (j < M) = false := dfalse (by omega)
          have hr2 : Hid (r' = true ↔ Wants s (L.take (k + 1))) := Lib.hid (by
            have e : V.take j = V := List.take_of_length_le (by have := hM2.out; omega)
            have := hr.out
            rw [e] at this
            rw [this, hws.out])
          clear hr hws hok
          go_wp2_with fail
          exact ⟨⟨k + 1, r', by omega, by go_num, rfl, hr2, o7, y7⟩, by simp [intOf] <;> omega⟩
        have hjl : decide ((j : Int) < (M : Int)) = true := dtrue (by omega)
        have hjn : decide (j < M) = true := dtrue (by omega)
        have hj0 : (0 : Int) ≤ (j : Int) := by omega
        have hj1 : (j : Int) < (M : Int) := by omega
        have hjv : j < V.length := by have := hM2.out; omega
        obtain ⟨A9, c9, e9, _, _, _, h5⟩ := (Sl.ext h8 x7).open_
        rw [← hM2.out] at e9
        injection e9 with e1 e2 e3
        clear e2
        subst e1
        subst e3
        obtain ⟨ag, e2, _, h6⟩ := h5.at_ hjv
        subst e2
        have hvj := hvl _ (List.getElem_mem hjv)
        have htk : (∃ v ∈ V.take (j + 1), equalM 1 v s = true) ↔ (∃ v ∈ V.take j, equalM 1 v s = true) ∨ equalM 1 V[j] s = true := by
          rw [List.take_succ_eq_append_getElem hjv]
          simp only [List.mem_append, List.mem_singleton]
          constructor
          · rintro ⟨a, ha | rfl, h⟩
            · exact .inl ⟨a, ha, h⟩
            · exact .inr h
          · rintro (⟨a, ha, h⟩ | h)
            · exact ⟨a, .inl ha, h⟩
            · exact ⟨_, .inr rfl, h⟩
        generalize V[j] = v at *
        have htk2 := Lib.hid htk
        clear htk h5 hjv
        cases r' with
        | true =>
          have hr2 : Hid (true = true ↔ Wants s (L.take k) ∨ (foldB t = cnT ∧ ∃ v ∈ V.take (j + 1), equalM 1 v s = true)) := Lib.hid (by
            rw [htk2.out]
            refine ⟨fun h => ?_, fun _ => rfl⟩
            rcases hr.out.1 rfl with h | ⟨h1, h2⟩
            · exact .inl h
            · exact .inr ⟨h1, .inl h2⟩)
          clear hr htk2 hok hws
          go_wp2_with fail
          exact ⟨⟨j + 1, true, by omega, by go_num, rfl, hr2, o7, x7⟩, by simp [intOf] <;> omega⟩
        | false =>
          have hno : ¬ (Wants s (L.take k) ∨ (foldB t = cnT ∧ ∃ v ∈ V.take j, equalM 1 v s = true)) := fun h => by have := hr.out.2 h; cases this
          cases hb : (is && (T2 == cnT)) with
          | false =>
            have hr2 : Hid (false = true ↔ Wants s (L.take k) ∨ (foldB t = cnT ∧ ∃ v ∈ V.take (j + 1), equalM 1 v s = true)) := Lib.hid (by
              refine ⟨fun h => (by cases h), fun h => ?_⟩
              rcases h with h | ⟨h, _⟩
              · exact absurd (.inl h) hno
              · have := hok.out.2 h
                rw [hb] at this; cases this)
            clear hr htk2 hok hws hno
            cases is with
            | false =>
              go_wp2_with fail
              exact ⟨⟨j + 1, false, by omega, by go_num, rfl, hr2, o7, x7⟩, by simp [intOf] <;> omega⟩
            | true =>
              have hb2 : (T2 == [99, 110]) = false := by simpa [cnT] using hb
              go_wp2_with fail
              exact ⟨⟨j + 1, false, by omega, by go_num, rfl, hr2, o7, x7⟩, by simp [intOf] <;> omega⟩
          | true =>
            have hct := hok.out.1 hb
            rw [Bool.and_eq_true] at hb
            obtain ⟨rfl, hb2⟩ := hb
            have hb3 : (T2 == [99, 110]) = true := hb2
            have hc := requal_any (w := wr) 1 v s (by omega) (by omega)
            have hr2 : Hid (equalM 1 v s = true ↔ Wants s (L.take k) ∨ (foldB t = cnT ∧ ∃ v ∈ V.take (j + 1), equalM 1 v s = true)) := Lib.hid (by
              rw [htk2.out]
              constructor
              · intro h; exact .inr ⟨hct, .inr h⟩
              · rintro (h | ⟨_, h | h⟩)
                · exact absurd (.inl h) hno
                · exact absurd (.inr ⟨hct, h⟩) hno
                · exact h)
            clear hr htk2 hok hws hno hct hb2
            generalize equalM 1 v s = r2 at *
            go_wp2_with fail
            refine hc.mono ?_
            rintro e w8 ⟨rfl, x8⟩
            have x9 := ext_trans x7 x8
            have o8 := o7.mod x8 (fun _ _ h => h)
            clear hc x8 x7 y7 o7
            go_wp2_with fail
            exact ⟨⟨j + 1, r2, by omega, by go_num, rfl, hr2, o8, x9⟩, by simp [intOf] <;> omega⟩
end Go.Proofs.Ytacmbomnjedbeaa
