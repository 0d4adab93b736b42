/- ber: the program's All. -/
import Derived.Test.YtcffefadagfdcaaBerV
namespace Go.Proofs.Ytcffefadagfdcaa
open Go.RowKit
set_option maxRecDepth 100000

theorem step_appk1 {P : Program} {w : World} {t e : TypeId} {z : Value} {k n m bytes : Nat} {S : Nat → Prop} {ops : Array Oper} {o : Oper} {a : Act} {K : Act → World → Prop} {Q : Exit → Act → World → Prop} {E : Prop} {d : Tmp} (hT : SliceTyK P t e z k bytes) {v y : Value} {xs news : List Value} (hown : OwnK w e k v n xs) (hr : SlK w S k y m news) (h1 : ∀ u ∈ news, u.oneCell' = true)
    (hgd : o.guard = none) (hd : o.dst = some d) (s x : Operand) (ho : o.op = .call { callee := .builtin .append, args := #[s, x], argTypes := #[t, t] }) (hs : a.eval s = v) (hx : a.eval x = y)
    (hn : (n + m) * bytes ≤ 140737488355328)
    (h : ∀ v' w', OwnK w' e k v' (n + m) (xs ++ news) → Mod (own v) w w' → Next w.heap.size v v' → K (a.put o.dst v') w') : if Region.wanted o (yielded ops a.tmps) = true then Oper.wp P o a w K Q else E := by
  have hw : Region.wanted o (yielded ops a.tmps) = true := by simp [Region.wanted, hgd]
  rw [if_pos hw]
  obtain ⟨v', w', hrun, h2, h3, h4⟩ := run_appk (P := P) hT o.type hown hr h1 hn
  unfold Oper.wp execOp
  simp only [ho, resolve, invoke, builtin, Sem.run_bind, Sem.run_pure, Result.andThen_ok, List.map_toArray, List.map_cons, List.map_nil, hs, hx, hrun]
  simp only [Oper.upon, hd]
  have := h v' w' h2 h3 h4
  rw [hd] at this
  exact this

set_option maxHeartbeats 8000000 in
theorem alls_any {w : World} {S : Nat → Prop} {v : Value} {l : List UInt8} (h : Bs w S v l) (hl : l.length ≤ 100000) :
    Calls Try.prog 34 #[v] w fun e w' => ∃ v', e = .returned (.tuple #[v', .int .i64 ((balls l.length l []).2 : Nat)]) ∧ Its w' 58 v' (balls l.length l []).1 ∧ Ext w w' := by
  obtain ⟨r, hr⟩ : ∃ r, r = balls l.length l [] := ⟨_, rfl⟩
  rw [← hr]
  replace hr := Lib.hid hr
  go_enter Try.func34, Try.ntmps34
  go_wp2_with fail
  go_loopw [0, 4] (fun vb vo wr => ∃ (n : Nat) (l' : List UInt8) (acc : List (UInt8 × List UInt8)), Bs wr (fun k => ¬ own vo k) vb l' ∧ Its wr 58 vo acc ∧ Fresh w.heap.size vo ∧ Ext w wr ∧ Hid (balls n l' acc = r) ∧ l'.length ≤ n ∧ acc.length + l'.length ≤ 100000) (fun vb _ _ => slen vb)
  case atStart => exact ⟨l.length, l, [], h.mono (fun _ _ _ hF => by cases hF), Its.nil _ _, fresh_nil _ _ _, Mod.refl _ _, Lib.hid hr.out.symm, Nat.le_refl _, by simpa using hl⟩
  case round =>
    obtain ⟨n, l', acc, p0, p1, p2, p3, p4, p5, p6⟩ := hrel
    have p00 := p0
    obtain ⟨A, c, rfl, h1, h2, h3, h4⟩ := p0.open_
    clear h3 p0
    by_cases e0 : l'.length = 0
    · have hb : decide ((0 : Int) < (l'.length : Int)) = false := by rw [decide_eq_false_iff_not]; omega
      have hrr := p4.out
      rw [balls_nil n acc e0] at hrr
      replace hrr := Lib.hid hrr
      clear p4
      go_wp2_with fail
      go_ret2
      rw [← hrr.out]
      exact ⟨_, rfl, p1, p3⟩
    have hb : decide ((0 : Int) < (l'.length : Int)) = true := by rw [decide_eq_true_eq]; omega
    obtain ⟨m, rfl⟩ : ∃ m, n = m + 1 := ⟨n - 1, by omega⟩
    go_wp2_with fail
    refine (blook_any p00 (by omega)).mono ?_
    rintro e wq ⟨rfl, hwq⟩
    rw [hwq]
    clear hwq
    have hok := @blook_ok l'
    have hbn : bnext l' = if (blook l').2.2 = 0 then (l'.getD 0 0, (l'.drop (blook l').1).take ((blook l').2.1 - (blook l').1), l'.drop (blook l').2.1, 0) else (0, [], [], (blook l').2.2) := rfl
    generalize blook l' = d at *
    obtain ⟨fr, en, er⟩ := d
    simp only at hok hbn ⊢
    by_cases hd : er = 0
    · subst hd
      rw [if_pos rfl] at hbn
      obtain ⟨a1, a2, a3⟩ := hok rfl
      clear hok
      have hrr := p4.out
      have he : (bnext l').2.2.2 = 0 := by rw [hbn]
      rw [balls_ok acc e0 he, hbn] at hrr
      have hsh := bnext_short he
      rw [hbn] at hsh
      simp only at hrr hsh
      clear he p4 hbn
      obtain ⟨ad, hA, hB, hc0⟩ := h4.byte (k := 0) (by omega)
      subst hA
      rw [show ad.add 0 = ad by simp [Addr.add]] at hc0
      rw [show l'.getD 0 0 = l'[0] by rw [List.getD_eq_getElem?_getD, List.getElem?_eq_getElem (by omega)]; rfl] at hrr
      have hi0 : 0 < l'.length := by omega
      generalize l'[0] = b0 at *
      have x1 : (0 : Int) ≤ (fr : Int) := by omega
      have x2 : (fr : Int) ≤ (en : Int) := by omega
      have x3 : (en : Int) ≤ (l'.length : Int) := by omega
      have x4 : (en : Int) ≤ (c : Int) := by omega
      have x5 : (0 : Int) ≤ (en : Int) := by omega
      have x6 : (l'.length : Int) ≤ (c : Int) := by omega
      obtain ⟨xs, u1, u2⟩ := p1
      have ul := Lib.hid u1.len
      have hBlt : ad.block < wr.heap.size := lt_of_cell hc0
      have hx0 : ¬ own u4 ad.block := hB
      have hx : ∀ wx, Mod (fun b => own u4 b ∨ wr.heap.size ≤ b) wr wx → wx.cell? ad = some (.int .u8 (b0.toNat : Int)) := fun wx hm => (hm.cell (lt_of_cell (w := wr) hc0) (by rintro (h | h); exact hx0 h; omega)).trans hc0
      have hlb : ((l'.drop fr).take (en - fr)).length = en - fr := by simp; omega
      have hl1 : ((l'.drop fr).take (en - fr)).length ≤ 281474976710656 := by omega
      have hrsI := bs_end p00 a3
      have hn1 := Lib.hid (show (acc.length + 1) * 32 ≤ 140737488355328 by omega)
      have hone : ∀ (A1 : Option Addr) (c1 : Nat), ∀ u ∈ ([.int .u8 (b0.toNat : Int), .slice A1 ((l'.drop fr).take (en - fr)).length c1] : List Value), u.oneCell' = true := by
        intro A1 c1 u hu; simp only [List.mem_cons, List.not_mem_nil, or_false] at hu; rcases hu with rfl | rfl <;> rfl
      have hlr : (l'.drop en).length = l'.length - en := by simp
      have q0 : Mod (fun b => own u4 b ∨ wr.heap.size ≤ b) wr wr.drew := (Mod.refl _ wr).drew
      by_cases hcm : c = fr
      · have hbd : Bs wr.drew (fun k => ¬ own u4 k) (.slice (some ad) (en - fr) 0) ((l'.drop fr).take (en - fr)) := by
          have := p00.rest0 (m := fr) (by omega) hcm
          rw [show l'.length - fr = (l'.drop fr).length by simp] at this
          exact this.begin (m := en - fr) (by simp; omega)
        obtain rfl : fr = c := hcm.symm
        obtain rfl : en = fr := by omega
        have hb0 : (l'.drop en).take (en - en) = [] := by rw [Nat.sub_self]; rfl
        rw [hb0] at hbd hl1 hlb hrr hone
        rw [Nat.sub_self] at hbd
        clear hb0
        have hrs0 : Bs wr (fun k => ¬ own u4 k) (.slice (some ad) (l'.length - en) 0) (l'.drop en) := p00.rest0 (m := en) (by omega) rfl
        rw [show l'.length - en = 0 by omega] at hrs0 hlr
        have hrn : l'.drop en = [] := List.eq_nil_of_length_eq_zero hlr
        rw [hrn] at hrs0 hrr hsh
        clear hrn hlr hrsI
        replace hrr := Lib.hid hrr
        replace hone := Lib.hid hone
        go_wp2_with fail
        have u1d : OwnK wr.drew 58 2 u4 acc.length xs := u1
        go_region_held3 (fun w' => w'.cell? ad = some (.int .u8 (b0.toNat : Int))) (first | exact hx _ q0 | exact hx _ q1 | exact hx _ (q1.alloc _) | exact hx _ q2) (first
          | (go_at_call 39; refine (bown_any hbd hl1).mono ?_; rintro e w2 ⟨v1, rfl, g1, g2, g3, g4⟩; have q1 : Mod (fun b => own u4 b ∨ wr.heap.size ≤ b) wr w2 := q0.then_ g3 (fun _ _ h => h.elim); obtain ⟨A1, c1, hv1⟩ := g1.shape; rw [List.length_map] at hv1; subst hv1; have u1a := (u1d.mod g3 (fun _ _ h => h)).alloc (.cells #[.int .u8 (b0.toNat : Int), .slice A1 0 c1] 58))
          | (refine step_appk1 tyItem u1a (SlK.one w2 58 [.int .u8 (b0.toNat : Int), .slice A1 0 c1] 2 rfl) (hone.out A1 c1) rfl rfl (.tmp 20) (.tmp 30) rfl rfl rfl hn1.out ?_; intro v3 w3 k1 k2 k3; have q2 := (q1.alloc _).then_ k2 (fun b _ h => .inl h)))
        have hlt4 : ∀ k, own u4 k → k < wr.heap.size := fun k hk => u1.lt hk
        have g1s := g1.sl
        have hx1 : Bs w2 (fun k => ¬ own u4 k) (.slice A1 0 c1) [] := g1s.mono (fun k hk hS hF => by have h1 := g2 k hS; have h2 := hlt4 k hF; have : wr.heap.size ≤ k := h1; omega)
        have e2 : Ext wr w2 := ext_trans ((Mod.refl _ wr).drew) g3
        have ea : Ext wr (w2.alloc (.cells #[.int .u8 (b0.toNat : Int), .slice A1 0 c1] 58)) := e2.alloc _
        have hits : Its w3 58 v3 (acc ++ [(b0, [])]) := Its.snoc (u2.ext ea) ul.out (hx1.ext ((Mod.refl _ w2).alloc _)) k1 k2 k3
        have hfr : Fresh w.heap.size v3 := k3.fresh p2 (Nat.le_trans p3.size ea.size)
        have hex : Ext w w3 := ext_app0 (ext_trans p3 ea) p2 k2
        have hrs : ∀ x, Bs wr (fun k => ¬ own u4 k) x [] → Bs w3 (fun k => ¬ own v3 k) x [] := fun x h => bs_moves (h.ext ea) k2 k3
        clear u1d g1s hx1 g1 g2 g3 g4 k1 k2 k3 q0 q1 q2 hx e2 ea u1 u1a u2 hlt4
        go_wp2_with fail
        refine ⟨⟨m, [], acc ++ [(b0, [])], hrs _ hrs0, hits, hfr, hex, hrr, by simp, by simp; omega⟩, ?_⟩
        simp [slen]; omega
      · have hbd : Bs wr.drew (fun k => ¬ own u4 k) (.slice (some (ad.add fr)) (en - fr) (c - fr)) ((l'.drop fr).take (en - fr)) := by
          have := p00.rest (m := fr) (by omega)
          rw [show l'.length - fr = (l'.drop fr).length by simp] at this
          exact this.begin (m := en - fr) (by simp; omega)
        generalize (l'.drop fr).take (en - fr) = bd at *
        generalize l'.drop en = rs at *
        replace hlb := Lib.hid hlb
        replace hlr := Lib.hid hlr
        replace hrr := Lib.hid hrr
        replace hone := Lib.hid hone
        go_wp2_with fail
        have u1d : OwnK wr.drew 58 2 u4 acc.length xs := u1
        go_region_held3 (fun w' => w'.cell? ad = some (.int .u8 (b0.toNat : Int))) (first | exact hx _ q0 | exact hx _ q1 | exact hx _ (q1.alloc _) | exact hx _ q2) (first
          | (go_at_call 39; refine (bown_any hbd hl1).mono ?_; rintro e w2 ⟨v1, rfl, g1, g2, g3, g4⟩; have q1 : Mod (fun b => own u4 b ∨ wr.heap.size ≤ b) wr w2 := q0.then_ g3 (fun _ _ h => h.elim); obtain ⟨A1, c1, hv1⟩ := g1.shape; rw [List.length_map] at hv1; subst hv1; have u1a := (u1d.mod g3 (fun _ _ h => h)).alloc (.cells #[.int .u8 (b0.toNat : Int), .slice A1 bd.length c1] 58))
          | (refine step_appk1 tyItem u1a (SlK.one w2 58 [.int .u8 (b0.toNat : Int), .slice A1 bd.length c1] 2 rfl) (hone.out A1 c1) rfl rfl (.tmp 20) (.tmp 30) rfl rfl rfl hn1.out ?_; intro v3 w3 k1 k2 k3; have q2 := (q1.alloc _).then_ k2 (fun b _ h => .inl h)))
        have hlt4 : ∀ k, own u4 k → k < wr.heap.size := fun k hk => u1.lt hk
        have g1s := g1.sl
        have hx1 : Bs w2 (fun k => ¬ own u4 k) (.slice A1 bd.length c1) bd := g1s.mono (fun k hk hS hF => by have h1 := g2 k hS; have h2 := hlt4 k hF; have : wr.heap.size ≤ k := h1; omega)
        have e2 : Ext wr w2 := ext_trans ((Mod.refl _ wr).drew) g3
        have ea : Ext wr (w2.alloc (.cells #[.int .u8 (b0.toNat : Int), .slice A1 bd.length c1] 58)) := e2.alloc _
        have hits : Its w3 58 v3 (acc ++ [(b0, bd)]) := Its.snoc (u2.ext ea) ul.out (hx1.ext ((Mod.refl _ w2).alloc _)) k1 k2 k3
        have hfr : Fresh w.heap.size v3 := k3.fresh p2 (Nat.le_trans p3.size ea.size)
        have hex : Ext w w3 := ext_app0 (ext_trans p3 ea) p2 k2
        have hrs : ∀ x, Bs wr (fun k => ¬ own u4 k) x rs → Bs w3 (fun k => ¬ own v3 k) x rs := fun x h => bs_moves (h.ext ea) k2 k3
        clear u1d g1s hx1 g1 g2 g3 g4 k1 k2 k3 q0 q1 q2 hx e2 ea u1 u1a u2 hlt4
        go_wp2_with fail
        refine ⟨⟨m, rs, acc ++ [(b0, bd)], hrs _ hrsI, hits, hfr, hex, hrr, by omega, by simp; omega⟩, ?_⟩
        have := hlr.out
        simp [slen]; omega
    · have hrr := p4.out
      rw [balls_err acc e0 (by rw [hbn, if_neg hd]; exact hd), hbn, if_neg hd] at hrr
      simp only at hrr
      have hne : ((er : Int) != 0) = true := by rw [bne_iff_ne]; omega
      replace hrr := Lib.hid hrr
      clear p4 hd hbn hok
      go_wp2_with fail
      go_ret2
      rw [← hrr.out]
      exact ⟨_, rfl, Its.nil _ _, p3⟩
end Go.Proofs.Ytcffefadagfdcaa
