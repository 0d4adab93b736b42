/- table: the document's Open. -/
import Derived.Test.YthohghnfiicndaaDoorTabZa
import Derived.Test.YthohghnfiicndaaDoorTabL
namespace Go.Proofs.YthohghnfiicndaaDoor
open Go.RowKit
set_option maxRecDepth 100000

/-- The document's reading of the blocks: their cells alone. -/
def rrunT : Nat → Option (List UInt8) → List Ce → Option (List Ce × Option (List UInt8))
  | 0, st, acc => some (acc, st)
  | _ + 1, none, acc => some (acc, none)
  | m + 1, some l, acc => if (decB (byT (some l))).2 ≠ 0 then none else rrunT m (nxT (some l)) (acc ++ (decB (byT (some l))).1)
def routO (b : List UInt8) : Option (List Ce × Option (List UInt8)) → Option (List Ce)
  | none => none
  | some x => if x.2.isNone = false ∧ buildN x.1 = 0 ∧ buildB x.1 = b then some x.1 else none
theorem rrunT_zero (st : Option (List UInt8)) (acc : List Ce) : rrunT 0 st acc = some (acc, st) := rfl
theorem rrunT_none (m : Nat) (acc : List Ce) : rrunT m none acc = some (acc, none) := by cases m <;> rfl
theorem rrunT_bad {m : Nat} {l : List UInt8} {acc : List Ce} (h : (decB (byT (some l))).2 ≠ 0) : rrunT (m + 1) (some l) acc = none := by
  show (if _ then none else _) = _
  rw [if_pos h]
theorem rrunT_step {m : Nat} {l : List UInt8} {acc : List Ce} (h : (decB (byT (some l))).2 = 0) : rrunT (m + 1) (some l) acc = rrunT m (nxT (some l)) (acc ++ (decB (byT (some l))).1) := by
  show (if _ then none else _) = _
  rw [if_neg (by omega)]
theorem rrun_of : ∀ (m : Nat) (st : Option (List UInt8)) (acc acc' : List Bl) (st' : Option (List UInt8)), runT m st acc = some (acc', st') → rrunT m st (allT acc) = some (allT acc', st')
  | 0, st, acc, acc', st', h => by
    injection h with h; injection h with h1 h2
    subst h1; subst h2
    rfl
  | m + 1, none, acc, acc', st', h => by
    injection h with h; injection h with h1 h2
    subst h1; subst h2
    rfl
  | m + 1, some l, acc, acc', st', h => by
    by_cases hb : hasE acc (enT (some l)) = true ∨ (decB (byT (some l))).2 ≠ 0
    · rw [runT_bad hb] at h; cases h
    · have e1 : hasE acc (enT (some l)) = false := by cases h1 : hasE acc (enT (some l)); · rfl
                                                      · exact absurd (.inl h1) hb
      have e2 : (decB (byT (some l))).2 = 0 := Decidable.byContradiction fun h1 => hb (.inr h1)
      rw [runT_step e1 e2] at h
      have := rrun_of m _ _ _ _ h
      rw [allT_snoc] at this
      rw [rrunT_step e2]
      exact this
theorem rrun_weight : ∀ (m : Nat) (st : Option (List UInt8)) (acc acc' : List Ce) (st' : Option (List UInt8)), rrunT m st acc = some (acc', st') → wC acc' + 4 * szO st' ≤ wC acc + 4 * szO st
  | 0, st, acc, acc', st', h => by
    injection h with h; injection h with h1 h2
    subst h1; subst h2
    exact Nat.le_refl _
  | m + 1, none, acc, acc', st', h => by
    injection h with h; injection h with h1 h2
    subst h1; subst h2
    exact Nat.le_refl _
  | m + 1, some l, acc, acc', st', h => by
    by_cases hb : (decB (byT (some l))).2 ≠ 0
    · rw [rrunT_bad hb] at h; cases h
    · have e2 : (decB (byT (some l))).2 = 0 := by omega
      rw [rrunT_step e2] at h
      have i1 := rrun_weight m _ _ _ _ h
      have a1 := (dec_weight e2).1
      have a2 := nx_size (some l)
      rw [wC_append] at i1
      omega
theorem ropen_eq {b p : List UInt8} (hb : oneR b = (p, 0)) (hl : b.length ≤ 40000) : routO b (rrunT (takeN (some p)).1 (takeN (some p)).2 []) = openL b := by
  have hpl : p.length ≤ b.length := by have := oneR_len b; rw [hb] at this; exact this
  have hnl := takeN_len (some p)
  cases hO : openL b with
  | none =>
    cases hr : rrunT (takeN (some p)).1 (takeN (some p)).2 [] with
    | none => rfl
    | some x =>
      obtain ⟨L, st⟩ := x
      have hw := rrun_weight _ _ _ _ _ hr
      show (if st.isNone = false ∧ buildN L = 0 ∧ buildB L = b then some L else none) = none
      by_cases hc : st.isNone = false ∧ buildN L = 0 ∧ buildB L = b
      · have hwz : wC ([] : List Ce) = 0 := rfl
        have e0 : ((some p).getD []).length = p.length := rfl
        obtain ⟨e1, -⟩ := open_build hc.2.1 (by unfold szO at hw; rw [hwz] at hw; omega)
        rw [hc.2.2, hO] at e1
        cases e1
      · exact if_neg hc
  | some L =>
    obtain ⟨h1, h2, h3, h4⟩ := open_some hO
    have ho := hO
    unfold openL at ho
    rw [hb] at ho
    simp only [ne_eq, not_true_eq_false, if_false] at ho
    cases ht : openT p with
    | none => rw [ht] at ho; cases ho
    | some x =>
      rw [ht] at ho
      have hx : allT x.1 = L := by
        unfold outO at ho
        simp only at ho
        split at ho
        · injection ho
        · cases ho
      unfold openT at ht
      cases hr : runT (takeN (some p)).1 (takeN (some p)).2 [] with
      | none => rw [hr] at ht; cases ht
      | some y =>
        rw [hr] at ht
        obtain ⟨acc, st⟩ := y
        have ht' : restT (acc, st) = some x := ht
        unfold restT at ht'
        have hr2 := rrun_of _ _ _ _ _ hr
        rw [show allT ([] : List Bl) = [] from rfl] at hr2
        rw [hr2]
        split at ht'
        · rename_i hwh
          injection ht' with ht'
          have hst : st.isNone = false := by
            cases st with
            | none => exact absurd hwh (show ¬ isWhole (takeB (takeN none).2).2 = true by decide)
            | some l => rfl
          have hac : allT acc = L := by rw [← hx, ← ht']
          show (if st.isNone = false ∧ buildN (allT acc) = 0 ∧ buildB (allT acc) = b then some (allT acc) else none) = some L
          rw [hac, if_pos ⟨hst, h3, h4⟩]
        · cases ht'
theorem Rk.apps {w wr w' : World} {g : Nat} {T : Nat → Prop} {vr v' va : Value} {st : Option (List UInt8)} {acc M : List Ce} (h : Rk w g T wr vr st va acc) (k1 : OwnC w' v' (acc ++ M)) (k2 : Mod (own va) wr w') (k3 : Next wr.heap.size va v') : Rk w g T w' vr st v' (acc ++ M) :=
  ⟨h.r.mod k2 (fun hg => by have := h.fr g hg; omega) (fun k _ hk ho => by have := h.fr k ho; have := h.ts k hk; have := h.lo; omega), k1, k3.fresh h.fr h.r.blk.lt,
    h.ex.trans k2 (fun _ _ h => h) (fun k hk ho => by have := h.fr k ho; have := h.lo; omega), h.lo, h.ts⟩
theorem cel_oks {M : List Ce} : ∀ x ∈ M, ∀ u ∈ cel x, u.oneCell' = true := fun x _ u hu => cel_ok x u hu

set_option maxHeartbeats 32000000 in
theorem ropen_any {w : World} {S : Nat → Prop} {v : Value} {bs : List UInt8} (h : Bs w S v bs) (hl : bs.length ≤ 3000) :
    Calls Tryd.prog 15 #[v] w fun e w' => ∃ v', e = .returned (.tuple #[v', .int .i64 (openN bs : Nat)]) ∧ OwnC w' v' ((openL bs).getD []) ∧ Fresh w.heap.size v' ∧ Ext w w' := by
  have hpl := oneR_len bs
  have hc1 := frone_any h (by omega)
  obtain ⟨A, c, rfl, -, -, -, -⟩ := h.open_
  have hbs : ∀ {wx : World}, Ext w wx → Bs wx S (.slice A bs.length c) bs := fun m => h.ext m
  obtain ⟨R, hR⟩ : ∃ R, R = openN bs := ⟨_, rfl⟩
  obtain ⟨O, hO⟩ : ∃ O, O = openL bs := ⟨_, rfl⟩
  rw [← hR, ← hO]
  unfold openN at hR
  rw [← hO] at hR
  rcases e1 : oneR bs with ⟨p, er⟩
  have hre0 := fun (a : er = 0) => ropen_eq (b := bs) (p := p) (by rw [e1, a]) (by omega)
  rw [← hO] at hre0
  unfold openL at hO
  rw [e1] at hR hO hc1 hpl
  simp only at hR hO hc1 hpl
  by_cases her : er = 0
  case neg =>
    rw [if_pos her] at hR hO
    have hb : ((er : Int) != 0) = true := by rw [bne_iff_ne]; omega
    subst hR; subst hO
    clear hre0 h
    go_enter Tryd.func15, Tryd.ntmps15
    go_wp2_with fail
    refine hc1.mono ?_
    rintro e w1 ⟨v1, rfl, o1, f1, x1⟩
    clear hc1
    go_wp2_with fail
    go_ret2
    exact ⟨_, rfl, OwnR.nil _ _ _ _, fresh_nil _ _ _, x1⟩
  rw [if_neg (by omega)] at hR
  have hre := hre0 her
  clear hre0
  subst her
  have hb : (((0 : Nat) : Int) != 0) = false := rfl
  clear h e1 hO
  obtain ⟨V, hV⟩ : ∃ V, V = rrunT (takeN (some p)).1 (takeN (some p)).2 [] := ⟨_, rfl⟩
  rw [← hV] at hre
  have hzp := takeN_len (some p)
  have hnB := takeN_le (some p)
  have hOV : Hid (V = none → O = none ∧ R = 3) := Lib.hid fun h => by
    have : O = none := by rw [← hre, h]; rfl
    exact ⟨this, by rw [hR, this]; rfl⟩
  have hOS : Hid (∀ L st, V = some (L, st) → ¬ (st.isNone = false ∧ buildN L = 0 ∧ buildB L = bs) → O = none ∧ R = 3) := Lib.hid fun L st h hn => by
    have : O = none := by rw [← hre, h]; exact if_neg hn
    exact ⟨this, by rw [hR, this]; rfl⟩
  have hOT : Hid (∀ L st, V = some (L, st) → (st.isNone = false ∧ buildN L = 0 ∧ buildB L = bs) → O = some L ∧ R = 0) := Lib.hid fun L st h hn => by
    have : O = some L := by rw [← hre, h]; exact if_pos hn
    exact ⟨this, by rw [hR, this]; rfl⟩
  clear hre hR
  go_enter Tryd.func15, Tryd.ntmps15
  go_wp2_with fail
  refine hc1.mono ?_
  rintro e w1 ⟨v1, rfl, o1, f1, x1⟩
  clear hc1
  have D0 := Rk.begin o1.sl
  obtain ⟨T, hT⟩ : ∃ T : Nat → Prop, T = fun k => own v1 k ∧ k < w1.heap.size := ⟨_, rfl⟩
  rw [← hT] at D0
  clear hT
  obtain ⟨A1, c1, rfl⟩ := o1.shape
  rw [List.length_map] at D0 ⊢
  have hgw := x1.size
  obtain ⟨wa, hwa⟩ : ∃ wa, wa = w1.alloc (.cells #[.slice A1 p.length c1, .bool false] 80) := ⟨_, rfl⟩
  obtain ⟨g, hg⟩ : ∃ g, g = w1.heap.size := ⟨_, rfl⟩
  rw [← hwa, ← hg] at D0
  rw [← hg] at hgw
  replace hwa := Lib.hid hwa
  replace hg := Lib.hid hg
  have hk1 := rrnum_any D0.r (by show p.length ≤ _; omega)
  clear o1 f1
  go_upto_region 6 with fail
  rw [← hwa.out, ← hg.out]
  go_wp2_with fail
  refine hk1.mono ?_
  rintro e w2 ⟨v2, rfl, r2, m2⟩
  have D2 := D0.call r2 m2
  clear hk1 m2 r2 D0
  generalize takeN (some p) = ns at *
  obtain ⟨n, s0⟩ := ns
  simp only at hzp hnB hV D2 ⊢
  replace hV := Lib.hid hV.symm
  have e0 : ((some p).getD []).length = p.length := rfl
  rw [e0] at hzp
  go_wp2_with fail
  go_loopw [7, 9] (fun vl i wr => ∃ (k : Nat) (st : Option (List UInt8)) (acc : List Ce) (vr : Value), i = .int .i64 k ∧ k ≤ n ∧ Hid (rrunT (n - k) st acc = V) ∧ Rk w1 g T wr vr st vl acc ∧ wC acc + 4 * szO st ≤ 4 * p.length) (fun _ i _ => n - (intOf i).toNat)
  case atStart => exact ⟨0, s0, [], v2, rfl, Nat.zero_le _, hV, D2, by show 0 + 4 * szO s0 ≤ _; unfold szO; omega⟩
  case round =>
    clear D2 hV
    obtain ⟨k, st, acc, vr, rfl, hk, hrun, D, hsz⟩ := hrel
    have hwl := wC_len acc
    have y1 := ext_trans x1 D.ex
    by_cases hgo : k < n ∧ st.isNone = false
    case pos =>
      obtain ⟨hlt, hst⟩ := hgo
      obtain ⟨l, rfl⟩ : ∃ l, st = some l := by cases st with | none => cases hst | some l => exact ⟨l, rfl⟩
      have hbl : decide ((k : Int) < (n : Int)) = true := dtrue (by omega)
      have b1 : wr.cell? ⟨g, 1, none⟩ = some (.bool false) := D.r.blk.c1.2
      have hz1 : szO (some l) = l.length := rfl
      have hns := nx_size (some l)
      rw [hz1] at hns hsz
      have hrun2 := hrun.out
      rw [show n - k = (n - (k + 1)) + 1 by omega] at hrun2
      have hbad : Hid ((decB (byT (some l))).2 ≠ 0 → V = none) := Lib.hid fun h => by rw [← hrun2, rrunT_bad h]
      have hstep : Hid ((decB (byT (some l))).2 = 0 → rrunT (n - (k + 1)) (nxT (some l)) (acc ++ (decB (byT (some l))).1) = V ∧ wC (decB (byT (some l))).1 ≤ 4 * (byT (some l)).length) := Lib.hid fun h => ⟨by rw [← hrun2, rrunT_step h], (dec_weight h).1⟩
      have k1 := rrbytes_any D.r (by show l.length ≤ _; omega)
      have hB1 := takeB_sum (some l)
      have hN1 := takeN_len (takeB (some l)).2
      clear hrun hrun2
      go_wp2_with fail
      refine k1.mono ?_
      rintro e w3 ⟨v3, va, rfl, r3, -, -, m3⟩
      have D3 := D.call r3 m3
      have k2 := rrnum_any D3.r (by show szO (takeB (some l)).2 ≤ _; omega)
      clear k1 D r3 m3 b1
      go_wp2_with fail
      refine k2.mono ?_
      rintro e w4 ⟨v4, rfl, r4, m4⟩
      have D4 := D3.call r4 m4
      have k3 := rrbytes_any D4.r (by show szO (takeN (takeB (some l)).2).2 ≤ _; unfold szO at *; omega)
      clear k2 D3 r4 m4
      go_wp2_with fail
      refine k3.mono ?_
      rintro e w5 ⟨v5, vb, rfl, r5, ob, -, m5⟩
      have D5 : Rk w1 g T w5 v5 (nxT (some l)) _ acc := D4.call r5 m5
      replace ob : Own w5 5 vb ((byT (some l)).map bv) := ob
      have kd := rdecode_any ob.sl (by omega)
      clear k3 D4 r5 m5 ob hB1 hN1
      generalize decB (byT (some l)) = dd at *
      obtain ⟨M, d⟩ := dd
      simp only at hbad hstep kd
      go_wp2_with fail
      refine kd.mono ?_
      rintro e w6 ⟨v6, rfl, o6, -, x6⟩
      have D6 := D5.ext x6
      clear kd D5
      by_cases hd : d = 0
      case neg =>
        have hb1 : ((d : Int) != 0) = true := by rw [bne_iff_ne]; omega
        obtain ⟨hO, hR⟩ := hOV.out (hbad.out hd)
        have hx := ext_trans x1 D6.ex
        clear hd hbad hstep
        go_wp2_with fail
        go_ret2
        exact ⟨_, by rw [hR]; rfl, by rw [hO]; exact OwnR.nil _ _ _ _, fresh_nil _ _ _, hx⟩
      have hb1 : ((d : Int) != 0) = false := by rw [bne_eq_false_iff_eq]; omega
      obtain ⟨hs1, hs2⟩ := hstep.out hd
      replace hs1 := Lib.hid hs1
      have hml := wC_len M
      have hn1 : (acc.length + M.length) * 48 ≤ 140737488355328 := by omega
      have hws : wC (acc ++ M) + 4 * szO (nxT (some l)) ≤ 4 * p.length := by rw [wC_append]; omega
      clear hbad hstep hd
      go_wp2_with ((with_reducible show wpList _ _ _ (⟨some 53, _, _, _, _, _⟩ :: _) _ _); refine wp_appRm tyC D6.p o6.rc cel_oks hn1 rfl (.tmp 51) (.tmp 52) rfl rfl rfl ?_; intro v7 w7 k1 k2 k3)
      exact ⟨⟨k + 1, nxT (some l), acc ++ M, v5, by go_num, by omega, hs1, D6.apps k1 k2 k3, hws⟩, by simp [intOf] <;> omega⟩
    case neg =>
      have hV2 : Hid (V = some (acc, st)) := Lib.hid (by
        rw [← hrun.out]
        by_cases hlt : k < n
        · cases st with
          | none => exact rrunT_none _ _
          | some l => exact absurd ⟨hlt, rfl⟩ hgo
        · rw [show n - k = 0 by omega, rrunT_zero])
      have hbu := rbuild_any D.p.rc (by omega)
      by_cases hlt : k < n
      case' pos =>
        have hbl : decide ((k : Int) < (n : Int)) = true := dtrue (by omega)
        have hst : st.isNone = true := by
          cases hs : st.isNone with
          | true => rfl
          | false => exact absurd ⟨hlt, hs⟩ hgo
        have b1 : wr.cell? ⟨g, 1, none⟩ = some (.bool true) := by have := D.r.blk.c1.2; rwa [hst] at this
        clear hrun hgo hst
        go_wp2_with fail
      case' neg =>
        have hbl : decide ((k : Int) < (n : Int)) = false := dfalse (by omega)
        clear hrun hgo
        go_wp2_with fail
      all_goals
        refine hbu.mono ?_
        rintro e w6 ⟨v6, rfl, o6, -, x6⟩
        have D6 := D.ext x6
        have hx := ext_trans x1 D6.ex
        have z6 := run_conv (P := Tryd.prog) Tryd.underlying24 Tryd.underlying5 Tryd.underlying9 o6.sl
        have zb := run_conv (P := Tryd.prog) Tryd.underlying24 Tryd.underlying5 Tryd.underlying9 (hbs hx)
        have hfr : ∀ {u : Value}, Fresh (g + 1) u → Fresh w.heap.size u := fun hf k hk => by have := hf k hk; omega
        have b6 : w6.cell? ⟨g, 1, none⟩ = some (.bool st.isNone) := D6.r.blk.c1.2
        have hs0 := hOS.out _ _ hV2.out
        have ht0 := hOT.out _ _ hV2.out
        clear hbu hOV hOS hOT hV2 D o6 x6
        cases hst : st.isNone with
        | true =>
          rw [hst] at b6
          obtain ⟨hO, hR⟩ := hs0 (by rw [hst]; simp)
          clear hs0 ht0
          generalize buildN acc = BN at *
          generalize buildB acc = BB at *
          go_wp2_with fail
          go_ret2
          exact ⟨_, by rw [hR]; rfl, by rw [hO]; exact OwnR.nil _ _ _ _, fresh_nil _ _ _, hx⟩
        | false =>
          rw [hst] at b6
          by_cases hz : buildN acc = 0
          case neg =>
            have hb1 : ((buildN acc : Int) != 0) = true := by rw [bne_iff_ne]; omega
            obtain ⟨hO, hR⟩ := hs0 (fun h => hz h.2.1)
            clear hs0 ht0 hz
            generalize buildN acc = BN at *
            generalize buildB acc = BB at *
            go_wp2_with fail
            go_ret2
            exact ⟨_, by rw [hR]; rfl, by rw [hO]; exact OwnR.nil _ _ _ _, fresh_nil _ _ _, hx⟩
          by_cases he : buildB acc = bs
          case neg =>
            have hb1 : (buildB acc != bs) = true := bne_iff_ne.2 he
            have hb2 : (buildB acc == bs) = false := beq_eq_false_iff_ne.2 he
            obtain ⟨hO, hR⟩ := hs0 (fun h => he h.2.2)
            rw [hz]
            clear hs0 ht0 hz
            generalize buildB acc = BB at *
            go_wp2_with fail
            go_ret2
            exact ⟨_, by rw [hR]; rfl, by rw [hO]; exact OwnR.nil _ _ _ _, fresh_nil _ _ _, hx⟩
          obtain ⟨hO, hR⟩ := ht0 ⟨hst, hz, he⟩
          have hb1 : (bs != bs) = false := by simp
          rw [hz]
          rw [he] at z6
          clear hs0 ht0 hz he
          go_wp2_with fail
          go_ret2
          exact ⟨_, by rw [hR]; rfl, by rw [hO]; exact D6.p, hfr D6.fr, hx⟩
end Go.Proofs.YthohghnfiicndaaDoor
