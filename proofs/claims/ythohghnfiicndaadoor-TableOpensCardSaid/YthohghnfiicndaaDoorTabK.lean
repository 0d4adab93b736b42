/- table: take, walked. -/
import Derived.Test.YthohghnfiicndaaDoorTabJ
namespace Go.Proofs.YthohghnfiicndaaDoor
open Go.RowKit Go.Maps Go.WideMaps
set_option maxRecDepth 100000

/-- What take leaves. -/
def Took (w w' : World) (g bm : Nat) (l : List UInt8) (q : Bool) : Prop :=
  (q = false ∧ openT l = none) ∨ (q = true ∧ ∃ x acc, openT l = some x ∧ acc.map Prod.fst = x.1 ∧ Tb (Tt w g bm) w' g acc (x.2.1 : Nat) x.2.2)
theorem set2_mod (w : World) (g i : Nat) (u : Value) : Mod (fun k => k = g) w (w.setCell ⟨g, i, none⟩ u) := (Mod.refl (fun k => k = g) w).setCell (p := ⟨g, i, none⟩) (fun _ => rfl) u
theorem mapp (acc : List Bv) (x : Bv) : (acc ++ [x]).map Prod.fst = acc.map Prod.fst ++ [x.1] := by rw [List.map_append]; rfl

theorem takeN_le (st : Option (List UInt8)) : (takeN st).1 ≤ 4611686018427387904 := by
  cases st with
  | none => exact Nat.zero_le _
  | some l =>
    unfold takeN takeNum
    simp only
    split
    · exact Nat.zero_le _
    · rename_i n' t' hh
      exact (numF_lt _ _ _ _ _ _ hh).2
theorem mSt_size (st : Option (List UInt8)) : szO st ≤ mSt st := by
  cases st with
  | none => exact Nat.le_refl _
  | some l => exact Nat.le_succ _
theorem TbAt.setc {S : Nat → Prop} {w : World} {g bm : Nat} {ve vf : Value} {D : DataW Unit} {acc : List Bv} {cnt : Int} {fil : List UInt8} (h : TbAt S w g bm ve vf D acc cnt fil) (n : Int) :
    TbAt S (w.setCell ⟨g, 3, none⟩ (.int .i64 n)) g bm ve vf D acc n fil where
  blk := h.blk.set_ 3 _
  ends := h.ends.mod (set2_mod w g 3 _) fun k hk e => (h.off_e hk).1 e
  map := ownsMap_mod h.map (set2_mod w g 3 _) (fun e => h.bg e.symm)
  of := h.of
  cells := fun x hx => (h.cells x hx).mod (set2_mod w g 3 _) fun k hk e => (h.off_c hx hk).1 e
  fil := h.fil.mod (set2_mod w g 3 _) fun k hk e => (h.off_f hk).1 e
  sg := h.sg
  sm := h.sm
  se := h.se
  sf := h.sf
  sc := h.sc
  fit := h.fit
theorem TbAt.setf {S : Nat → Prop} {w : World} {g bm : Nat} {ve vf vf' : Value} {D : DataW Unit} {acc : List Bv} {cnt : Int} {fil fil' : List UInt8} (h : TbAt S w g bm ve vf D acc cnt fil) (ho : Own w 5 vf' (fil'.map bv)) (hs : ∀ k, own vf' k → S k) :
    TbAt S (w.setCell ⟨g, 2, none⟩ vf') g bm ve vf' D acc cnt fil' where
  blk := h.blk.set_ 2 _
  ends := h.ends.mod (set2_mod w g 2 _) fun k hk e => (h.off_e hk).1 e
  map := ownsMap_mod h.map (set2_mod w g 2 _) (fun e => h.bg e.symm)
  of := h.of
  cells := fun x hx => (h.cells x hx).mod (set2_mod w g 2 _) fun k hk e => (h.off_c hx hk).1 e
  fil := ho.mod (set2_mod w g 2 _) fun k hk e => by
    obtain ⟨cur, hc⟩ := Own.ty ho hk
    rw [e] at hc
    exact absurd (hc.ty_eq h.blk) (by decide)
  sg := h.sg
  sm := h.sm
  se := h.se
  sf := hs
  sc := h.sc
  fit := h.fit

set_option maxHeartbeats 16000000 in
theorem ttake_any {w : World} {g bm b : Nat} {Sr : Nat → Prop} {v : Value} {l : List UInt8} (hb : Blk w g 72 (tcells (.slice none 0 0) bm (.slice none 0 0) 0)) (hm : w.ownsMap Tryd.prog 85 slE bm 0 (.map []))
    (hr : Rd w b Sr v (some l)) (hS : ∀ k, Sr k → k < w.heap.size ∧ k ≠ g ∧ k ≠ bm) (hl : l.length ≤ 40000) :
    Calls Tryd.prog 42 #[.pointer (some ⟨g, 0, none⟩), .pointer (some ⟨b, 0, none⟩)] w fun e w' => ∃ q, e = .returned (.bool q) ∧ Took w w' g bm l q ∧ Mod (Mt g bm b) w w' := by
  have hgb : b ≠ g := by
    rintro rfl
    exact absurd (hr.blk.ty_eq hb) (by decide)
  have hbb : b ≠ bm := hr.blk.ne_map hm
  have K0 : Tk w g bm b Sr (Tt w g bm) w v (some l) (.slice none 0 0) (.map []) [] :=
    ⟨hr, ⟨hb, OwnR.nil enl 2 _ _, hm, MapOf.begin, (fun x hx => by cases hx), Own.nil _ _, .inl rfl, .inr (.inl rfl), (fun k hk => by cases hk), (fun k hk => by cases hk), (fun x hx => by cases hx), (fun x hx => by cases hx)⟩, Mod.refl _ _, hr.blk.lt, hgb, hbb, hS, fun _ h => h⟩
  have hn := num_any hr
  have hz := takeN_len (some l)
  have hnB := takeN_le (some l)
  have hT : Hid (∀ x, runT (takeN (some l)).1 (takeN (some l)).2 [] = x → openT l = x.bind restT) := Lib.hid fun x hx => by unfold openT; rw [hx]
  have hms : mSt (takeN (some l)).2 ≤ l.length + 1 := by
    cases h5 : (takeN (some l)).2 with
    | none => exact Nat.zero_le _
    | some t => rw [h5] at hz; simp only [Option.getD_some] at hz; show t.length + 1 ≤ _; omega
  generalize takeN (some l) = ns at *
  obtain ⟨n, s0⟩ := ns
  simp only [Option.getD_some] at hn hz hT hms hnB
  clear hb hm hr hS
  go_enter Tryd.func42, Tryd.ntmps42
  go_wp2_with fail
  refine hn.mono ?_
  rintro e w1 ⟨v1, rfl, r1, m1, -⟩
  have K1 := K0.rd r1 m1
  clear K0 hn r1 m1
  go_wp2_with fail
  go_loopw [6] (fun i wr => ∃ (k : Nat) (st : Option (List UInt8)) (vr ve : Value) (D : DataW Unit) (acc : List Bv), i = .int .i64 k ∧ k ≤ n ∧ Hid (runT n s0 [] = runT (n - k) st (acc.map Prod.fst)) ∧ Tk w g bm b Sr (Tt w g bm) wr vr st ve D acc ∧ acc.length + mSt st ≤ 40001) (fun _ wr => rms wr b)
  case atStart => exact ⟨0, s0, v1, _, _, [], rfl, Nat.zero_le _, Lib.hid rfl, K1, by simp only [List.length_nil]; omega⟩
  case round =>
    clear K1
    obtain ⟨k, st, vr, ve, D, acc, rfl, hk, hrun, K, hsz⟩ := hrel
    have hrm := K.r.rms
    by_cases hlt : k < n
    case neg =>
      have hbl : decide ((k : Int) < (n : Int)) = false := dfalse (by omega)
      have hT2 := hT.out _ hrun.out
      rw [show n - k = 0 by omega, runT_zero] at hT2
      clear hT hrun
      simp only [Option.bind_some] at hT2
      have hsz2 : (st.getD []).length ≤ 40001 := by have := mSt_size st; unfold szO at this; omega
      have hnl := takeN_len st
      have hnum := num_any K.r
      unfold restT at hT2
      simp only at hT2
      rcases e1 : takeN st with ⟨cn, s1⟩
      rw [e1] at hnum hT2 hnl
      simp only at hnum hT2 hnl
      rcases e2 : takeB s1 with ⟨fb, s2⟩
      rw [e2] at hT2
      simp only at hT2
      obtain ⟨fin, hfin⟩ : ∃ fin, fin = isWhole s2 := ⟨_, rfl⟩
      rw [← hfin] at hT2
      replace hT2 := Lib.hid hT2
      go_wp2_with fail
      refine hnum.mono ?_
      rintro e w2 ⟨v2, rfl, r2, m2, -⟩
      have K2 := K.rd r2 m2
      have T3 := K2.t.setc (cn : Int)
      have M3 : Mod (Mt g bm b) w (w2.setCell ⟨g, 3, none⟩ (.int .i64 (cn : Int))) := K2.m.then_ (set2_mod w2 g 3 _) (fun k _ e => .inl e)
      have R3 := K2.r.mod (set2_mod w2 g 3 (.int .i64 (cn : Int))) (fun e => hgb e) (fun k _ hk e => (K2.sr k hk).2.1 e)
      have fz3 := K2.t.blk.frozen 3
      have c23 : w2.cell? ⟨g, 3, none⟩ = some (.int .i64 0) := K2.t.blk.cell 3
      have hbe := bytes_any R3 (by omega)
      rw [e2] at hbe
      clear K hnum r2 m2
      obtain ⟨w3, hw3⟩ : ∃ w3, w3 = w2.setCell ⟨g, 3, none⟩ (.int .i64 (cn : Int)) := ⟨_, rfl⟩
      rw [← hw3] at T3 M3 hbe
      replace hw3 := Lib.hid hw3
      go_upto_region 15 with fail
      rw [← hw3.out]
      go_wp2_with fail
      refine hbe.mono ?_
      rintro e w4 ⟨v4, y4, rfl, r4, o4, f4, m4⟩
      obtain ⟨A4, n4, cp4, rfl⟩ : ∃ A n c, y4 = Value.slice A n c := by obtain ⟨A, c, h⟩ := o4.shape; exact ⟨A, _, c, h⟩
      have T4 := T3.mod m4 (fun k _ hk e => K2.offb hk e)
      have hM4 := M3.then_ m4 (fun k _ e => .inr (.inr e))
      have T5 := T4.setf o4 (fun k hk => .inr (.inr (by have := f4 k hk; have := M3.size; omega)))
      have M5 : Mod (Mt g bm b) w (w4.setCell ⟨g, 2, none⟩ (.slice A4 n4 cp4)) := hM4.then_ (set2_mod w4 g 2 _) (fun k _ e => .inl e)
      have R5 := r4.mod (set2_mod w4 g 2 (.slice A4 n4 cp4)) (fun e => hgb e) (fun k _ hk e => (K2.sr k hk).2.1 e)
      have fz2 := T4.blk.frozen 2
      have c42 : w4.cell? ⟨g, 2, none⟩ = some (.slice none 0 0) := T4.blk.cell 2
      have hwh := whole_any R5
      rw [← hfin] at hwh
      clear hfin
      clear K2 T3 M3 hbe T4 hM4 R5 r4 m4 R3 fz3 c23
      go_wp2_with fail
      refine hwh.mono ?_
      rintro e w6 ⟨rfl, rfl⟩
      go_wp2_with fail
      go_ret
      refine ⟨fin, rfl, ?_, M5⟩
      cases hc : fin
      · refine .inl ⟨rfl, ?_⟩
        rw [hT2.out, hc]; rfl
      · refine .inr ⟨rfl, ⟨acc.map Prod.fst, cn, fb⟩, acc, ?_, rfl, ⟨bm, ve, _, D, T5⟩⟩
        rw [hT2.out, hc]; rfl
    have hbl : decide ((k : Int) < (n : Int)) = true := dtrue (by omega)
    cases st with
    | none =>
      have hT2 := hT.out _ hrun.out
      rw [runT_none] at hT2
      clear hT hrun
      simp only [Option.bind_some] at hT2
      have hgood := good_any K.r
      go_wp2_with fail
      refine hgood.mono ?_
      rintro e w0' ⟨rfl, rfl⟩
      clear hgood
      obtain ⟨st, hst0⟩ : ∃ st : Option (List UInt8), st = none := ⟨_, rfl⟩
      rw [← hst0] at K hT2 hsz
      clear hst0
      have hsz2 : (st.getD []).length ≤ 40001 := by have := mSt_size st; unfold szO at this; omega
      have hnl := takeN_len st
      have hnum := num_any K.r
      unfold restT at hT2
      simp only at hT2
      rcases e1 : takeN st with ⟨cn, s1⟩
      rw [e1] at hnum hT2 hnl
      simp only at hnum hT2 hnl
      rcases e2 : takeB s1 with ⟨fb, s2⟩
      rw [e2] at hT2
      simp only at hT2
      obtain ⟨fin, hfin⟩ : ∃ fin, fin = isWhole s2 := ⟨_, rfl⟩
      rw [← hfin] at hT2
      replace hT2 := Lib.hid hT2
      go_wp2_with fail
      refine hnum.mono ?_
      rintro e w2 ⟨v2, rfl, r2, m2, -⟩
      have K2 := K.rd r2 m2
      have T3 := K2.t.setc (cn : Int)
      have M3 : Mod (Mt g bm b) w (w2.setCell ⟨g, 3, none⟩ (.int .i64 (cn : Int))) := K2.m.then_ (set2_mod w2 g 3 _) (fun k _ e => .inl e)
      have R3 := K2.r.mod (set2_mod w2 g 3 (.int .i64 (cn : Int))) (fun e => hgb e) (fun k _ hk e => (K2.sr k hk).2.1 e)
      have fz3 := K2.t.blk.frozen 3
      have c23 : w2.cell? ⟨g, 3, none⟩ = some (.int .i64 0) := K2.t.blk.cell 3
      have hbe := bytes_any R3 (by omega)
      rw [e2] at hbe
      clear K hnum r2 m2
      obtain ⟨w3, hw3⟩ : ∃ w3, w3 = w2.setCell ⟨g, 3, none⟩ (.int .i64 (cn : Int)) := ⟨_, rfl⟩
      rw [← hw3] at T3 M3 hbe
      replace hw3 := Lib.hid hw3
      go_upto_region 15 with fail
      rw [← hw3.out]
      go_wp2_with fail
      refine hbe.mono ?_
      rintro e w4 ⟨v4, y4, rfl, r4, o4, f4, m4⟩
      obtain ⟨A4, n4, cp4, rfl⟩ : ∃ A n c, y4 = Value.slice A n c := by obtain ⟨A, c, h⟩ := o4.shape; exact ⟨A, _, c, h⟩
      have T4 := T3.mod m4 (fun k _ hk e => K2.offb hk e)
      have hM4 := M3.then_ m4 (fun k _ e => .inr (.inr e))
      have T5 := T4.setf o4 (fun k hk => .inr (.inr (by have := f4 k hk; have := M3.size; omega)))
      have M5 : Mod (Mt g bm b) w (w4.setCell ⟨g, 2, none⟩ (.slice A4 n4 cp4)) := hM4.then_ (set2_mod w4 g 2 _) (fun k _ e => .inl e)
      have R5 := r4.mod (set2_mod w4 g 2 (.slice A4 n4 cp4)) (fun e => hgb e) (fun k _ hk e => (K2.sr k hk).2.1 e)
      have fz2 := T4.blk.frozen 2
      have c42 : w4.cell? ⟨g, 2, none⟩ = some (.slice none 0 0) := T4.blk.cell 2
      have hwh := whole_any R5
      rw [← hfin] at hwh
      clear hfin
      clear K2 T3 M3 hbe T4 hM4 R5 r4 m4 R3 fz3 c23
      go_wp2_with fail
      refine hwh.mono ?_
      rintro e w6 ⟨rfl, rfl⟩
      go_wp2_with fail
      go_ret
      refine ⟨fin, rfl, ?_, M5⟩
      cases hc : fin
      · refine .inl ⟨rfl, ?_⟩
        rw [hT2.out, hc]; rfl
      · refine .inr ⟨rfl, ⟨acc.map Prod.fst, cn, fb⟩, acc, ?_, rfl, ⟨bm, ve, _, D, T5⟩⟩
        rw [hT2.out, hc]; rfl
    | some s =>
      have hs : s.length ≤ 40000 := by have : mSt (some s) = s.length + 1 := rfl; omega
      have hgood := good_any K.r
      go_wp2_with fail
      refine hgood.mono ?_
      rintro e w2 ⟨rfl, rfl⟩
      have q1 := takeB_len (some s)
      have q2 := takeN_len (takeB (some s)).2
      have hft := enT_fit (st := some s) (by unfold szO; simp only [Option.getD_some]; omega)
      have hby : (byT (some s)).length ≤ 40000 := by have := nx_size (some s); unfold szO at this; simp only [Option.getD_some] at this; omega
      have hst := @runT_step (n - (k + 1)) s (acc.map Prod.fst)
      have hbd := @runT_bad (n - (k + 1)) s (acc.map Prod.fst)
      rw [show n - (k + 1) + 1 = n - k by omega] at hst hbd
      have hmm := nx_mSt s
      have hb1 := fun (wx : World) (vx : Value) (h : Rd wx b Sr vx (some s)) => bytes_any h (by simp only [Option.getD_some]; omega)
      unfold enT at hst hbd hft
      unfold byT at hst hbd hby
      unfold nxT at hst hmm
      rcases e1 : takeB (some s) with ⟨key, s1⟩
      rw [e1] at hst hbd hft hby hmm q1 q2 hb1
      rcases e2 : takeN s1 with ⟨sq, s2⟩
      rw [e2] at hst hbd hft hby hmm q2
      rcases e3 : takeB s2 with ⟨bs, s3⟩
      rw [e3] at hst hbd hby hmm
      simp only [Option.getD_some] at hst hbd hft hby hmm q1 q2 hb1
      rcases edB : decB bs with ⟨cs, er⟩
      rw [edB] at hst hbd
      simp only at hst hbd
      replace hst := Lib.hid hst
      replace hbd := Lib.hid hbd
      replace hT := hT
      have Kc := K.cut
      obtain ⟨N, hN⟩ : ∃ N, N = w2.heap.size := ⟨_, rfl⟩
      obtain ⟨w3, hw3⟩ : ∃ w3, w3 = w2.alloc (.cells #[sv [], .int .i64 0] 85) := ⟨_, rfl⟩
      have B3 : Blk w3 N 85 #[sv [], .int .i64 0] := by rw [hw3, hN]; exact Blk.new w2 _ _
      have x3 : Ext w2 w3 := by rw [hw3]; exact (Mod.refl _ w2).alloc _
      have K3 := Kc.ext x3
      rw [← hN] at K3
      have hNb : N ≠ b := by have := K.r.blk.lt; omega
      have hNw : w.heap.size ≤ N := by have := K.m.size; omega
      replace hw3 := Lib.hid hw3
      replace hN := Lib.hid hN
      clear K Kc x3
      go_upto_region 6 with fail
      rw [← hw3.out, ← hN.out]
      go_wp2_with fail
      refine (hb1 _ _ K3.r).mono ?_
      rintro e w4 ⟨v4, y4, rfl, r4, o4, f4, m4⟩
      have K4 := K3.rd r4 m4
      have B4 := B3.mod m4 hNb
      have cv := run_conv (P := Tryd.prog) Tryd.underlying24 Tryd.underlying5 Tryd.underlying9 o4.sl
      have fz0 := Blk.frozen B4 0
      have c40 : w4.cell? ⟨N, 0, none⟩ = some (sv []) := B4.cell 0
      have B5 : Blk (w4.setCell ⟨N, 0, none⟩ (sv key)) N 85 #[sv key, .int .i64 0] := B4.set_ 0 (sv key)
      have K5 := K4.mod (set2_mod w4 N 0 (sv key)) (fun k _ hk e => by have := hk.2; omega) (fun k e => by omega)
      clear K3 r4 f4 m4 B3 hb1
      have hn5 := num_any K5.r
      rw [e2] at hn5
      obtain ⟨A4, n4, cp4, rfl⟩ : ∃ A n c, y4 = Value.slice A n c := by obtain ⟨A, c, h⟩ := o4.shape; exact ⟨A, _, c, h⟩
      go_wp2_with fail
      refine hn5.mono ?_
      rintro e w6 ⟨v6, rfl, r6, m6, -⟩
      have K6 := K5.rd r6 m6
      have B6 := B5.mod m6 hNb
      have fz1 := Blk.frozen B6 1
      have c61 : w6.cell? ⟨N, 1, none⟩ = some (.int .i64 0) := B6.cell 1
      have B7 : Blk (w6.setCell ⟨N, 1, none⟩ (.int .i64 (sq : Int))) N 85 #[sv key, .int .i64 (sq : Int)] := B6.set_ 1 (.int .i64 (sq : Int))
      have K7 := K6.mod (set2_mod w6 N 1 (.int .i64 (sq : Int))) (fun k _ hk e => by have := hk.2; omega) (fun k e => by omega)
      clear K4 K5 B4 B5 cv c40 fz0 hn5 r6 m6 o4
      have hb8 := bytes_any K7.r (by omega)
      rw [e3] at hb8
      go_wp2_with fail
      refine hb8.mono ?_
      rintro e w8 ⟨v8, y8, rfl, r8, o8, f8, m8⟩
      have K8 := K7.rd r8 m8
      have B8 := B7.mod m8 hNb
      have hd8 := decode_any o8.sl hby
      rw [edB] at hd8
      simp only at hd8
      clear K6 K7 B6 B7 c61 fz1 hb8 r8 m8
      go_wp2_with fail
      refine hd8.mono ?_
      rintro e w9 ⟨y9, rfl, o9, f9, x9⟩
      have K9 := K8.ext x9
      have B9 := B8.mod x9 (fun h => h)
      have hNlt := B8.lt
      obtain ⟨dd, hdd⟩ := slE_own o9
      have hfr : ∀ k, own y9 k → w.heap.size ≤ k ∧ ¬ own ve k := fun k hk => by
        have h1 := f9 k hk
        refine ⟨by omega, fun h2 => ?_⟩
        have h3 := (K8.t.ends.lt h2)
        omega
      clear K8 B8 hd8 f8 o8 x9 f9
      have q0 : Ext w9 w9.drew := (Mod.refl _ w9).drew
      obtain ⟨vz, ps, hlk, -⟩ := (K9.ext q0).t.map.look_ok keyEK Tryd.underlying69 (zeroC _) slE_nil (key_en hft)
      rw [K9.t.of.has _ hft] at hlk
      have c91 : w9.drew.cell? ⟨g, 1, none⟩ = some (.map (some bm)) := K9.t.blk.cell 1
      have b90 : w9.drew.cell? ⟨N, 0, none⟩ = some (sv key) := B9.cell 0
      have b91 : w9.drew.cell? ⟨N, 1, none⟩ = some (.int .i64 (sq : Int)) := B9.cell 1
      have hlk2 : (Instr.lookup 69 (.map (some bm)) (.agg #[sv key, .int .i64 (sq : Int)]) true).run Tryd.prog w9.drew = .ok (.tuple #[vz, .bool (hasV acc ⟨key, (sq : Int)⟩)]) w9.drew := hlk
      have hhv : Hid (hasV acc ⟨key, (sq : Int)⟩ = hasE (acc.map Prod.fst) ⟨key, (sq : Int)⟩) := Lib.hid rfl
      generalize hasV acc ⟨key, (sq : Int)⟩ = tw at *
      clear hlk
      go_upto_region 9 with fail
      go_region_held3 (fun wx => wx.cell? ⟨g, 1, none⟩ = some (.map (some bm)) ∧ wx.cell? ⟨N, 0, none⟩ = some (sv key) ∧ wx.cell? ⟨N, 1, none⟩ = some (.int .i64 (sq : Int)) ∧ (Instr.lookup 69 (.map (some bm)) (.agg #[sv key, .int .i64 (sq : Int)]) true).run Tryd.prog wx = .ok (.tuple #[vz, .bool tw]) wx) (exact ⟨c91, b90, b91, hlk2⟩) (fail)
      rename_i hH0
      clear hH0 c91 b90 b91 hlk2 ps
      have Kd := K9.ext q0
      have Bd : Blk w9.drew N 85 #[sv key, .int .i64 (sq : Int)] := B9
      have od : OwnC w9.drew y9 cs := o9
      have hNd : N < w9.drew.heap.size := B9.lt
      clear K9 B9 o9 hNlt
      generalize w9.drew = wd at *
      clear q0
      cases tw with
      | true =>
        have hT2 := hT.out _ (hrun.out.trans (hbd.out (.inl hhv.out.symm)))
        clear hst hbd hrun hT
        go_wp2_with fail
        go_ret
        exact ⟨false, rfl, .inl ⟨rfl, hT2⟩, Kd.m⟩
      | false =>
      by_cases her : er = 0
      case neg =>
        have hT2 := hT.out _ (hrun.out.trans (hbd.out (.inr her)))
        have hb2 : ((er : Int) != 0) = true := by rw [bne_iff_ne]; omega
        clear hst hbd hrun hT
        go_wp2_with fail
        go_ret
        exact ⟨false, rfl, .inl ⟨rfl, hT2⟩, Kd.m⟩
      have hb2 : ((er : Int) != 0) = false := by rw [bne_eq_false_iff_eq]; omega
      have hr2 := Lib.hid (hrun.out.trans (hst.out hhv.out.symm her))
      clear hst hbd hrun her
      obtain ⟨Av, cv, hve⟩ := Kd.t.ends.shape
      rw [List.length_map] at hve
      subst hve
      have hcc : ∀ {F : Nat → Prop} {wx : World}, Mod F wd wx → (∀ k, F k → own (.slice Av acc.length cv) k) → Blk wx g 72 (tcells (.slice Av acc.length cv) bm (.slice none 0 0) 0) ∧ Blk wx N 85 #[sv key, .int .i64 (sq : Int)] := fun hx hF => by
        exact ⟨Kd.t.blk.mod hx (fun h => (Kd.t.off_e (hF _ h)).1 rfl), Bd.mod hx (fun h => by have := (Kd.t.se _ (hF _ h)).2; omega)⟩
      have oN : OwnR enl 2 wd.drew 85 (.slice Av acc.length cv) (acc.map fun x => x.1.1) := Kd.t.ends
      have hn1 : ((acc.map fun x => x.1.1).length + 1) * 24 ≤ 140737488355328 := by rw [List.length_map]; omega
      replace hn1 := Lib.hid hn1
      have q0 : Ext wd wd.drew := (Mod.refl _ wd).drew
      have qa : Ext wd (wd.alloc (.cells #[sv key, .int .i64 (sq : Int)] 85)) := (Mod.refl _ wd).alloc _
      go_upto_region 12 with fail
      go_cut [0, 1, 5, 6, 7, 8] (fun s0 s1 s5 s6 s7 s8 wx => s0 = .pointer (some ⟨g, 0, none⟩) ∧ s1 = .pointer (some ⟨b, 0, none⟩) ∧ s5 = .int .i64 (n : Int) ∧ s6 = .int .i64 (k : Int) ∧ s7 = .pointer (some ⟨N, 0, none⟩) ∧ s8 = y9 ∧ (∃ ve', Blk wx g 72 (tcells ve' bm (.slice none 0 0) 0) ∧ OwnR enl 2 wx 85 ve' ((acc.map fun x => x.1.1) ++ [⟨key, (sq : Int)⟩]) ∧ Next wd.heap.size (.slice Av acc.length cv) ve') ∧ Mod (fun k => k = g ∨ own (.slice Av acc.length cv) k) wd wx)
      case first =>
        obtain ⟨z1, z2⟩ := hcc (Mod.refl (fun _ => False) wd) (fun _ h => h.elim)
        have c1 : wd.cell? ⟨g, 0, none⟩ = some (.slice Av acc.length cv) := z1.cell 0
        have d0 : wd.cell? ⟨N, 0, none⟩ = some (sv key) := z2.cell 0
        have d1 : wd.cell? ⟨N, 1, none⟩ = some (.int .i64 (sq : Int)) := z2.cell 1
        have f1 := z1.frozen 0
        obtain ⟨y1, y2⟩ := hcc qa (fun _ h => h.elim)
        have a1 : (wd.alloc (.cells #[sv key, .int .i64 (sq : Int)] 85)).cell? ⟨g, 0, none⟩ = some (.slice Av acc.length cv) := y1.cell 0
        have e0 : (wd.alloc (.cells #[sv key, .int .i64 (sq : Int)] 85)).cell? ⟨N, 0, none⟩ = some (sv key) := y2.cell 0
        have e1 : (wd.alloc (.cells #[sv key, .int .i64 (sq : Int)] 85)).cell? ⟨N, 1, none⟩ = some (.int .i64 (sq : Int)) := y2.cell 1
        have fa1 := y1.frozen 0
        clear z1 z2 y1 y2
        go_region_law (first
          | (refine step_appR (x := (⟨key, (sq : Int)⟩ : En)) tyEn enl_len oN rfl (enl_ok _) hn1.out rfl rfl (.tmp 54) (.tmp 56) rfl rfl rfl ?_; intro va wa k1 k2 k3; obtain ⟨A1, z1, hv1⟩ := k1.rc.shape; subst hv1; have q1 : Mod (own (.slice Av acc.length cv)) wd wa := q0.trans k2 (fun _ _ h => h.elim) (fun _ _ h => h); have r1 := (hcc q1 (fun _ h => h)).1; have c11 : wa.cell? ⟨g, 0, none⟩ = some (.slice Av acc.length cv) := r1.cell 0; have fr1 := r1.frozen 0))
        all_goals go_wp2_with fail
        all_goals go_meet
        all_goals
          have hlen : (List.map (fun x : Bv => x.1.1) acc ++ [(⟨key, (sq : Int)⟩ : En)]).length = acc.length + 1 := by simp
          rw [hlen] at k1 k3
          refine ⟨rfl, rfl, rfl, rfl, rfl, rfl, ⟨_, r1.set_ 0 _, k1.mod (set2_mod wa g 0 _) (fun j hj e => ?_), k3⟩, (q1.mono (G := fun j => j = g ∨ own (.slice Av acc.length cv) j) (fun _ _ h => .inr h)).then_ (set2_mod wa g 0 _) (fun j _ e => .inl e)⟩
          obtain ⟨cur, hc⟩ := OwnR.ty k1 hj
          rw [e] at hc
          exact absurd (hc.ty_eq r1) (by decide)
      case rest =>
        obtain ⟨rfl, rfl, rfl, rfl, rfl, rfl, ⟨ve', bt, ot, nt⟩, mt⟩ := hcut
        have hNg : g < N := Kd.t.sg.2
        have hbx := Bd.mod mt (fun h => h.elim (fun e => by omega) (fun e => by have := (Kd.t.se _ e).2; omega))
        have hmp := ownsMap_mod Kd.t.map mt (fun h => h.elim (fun e => Kd.t.bg e.symm) (fun e => (Kd.t.off_e e).2 rfl))
        have hmd : wc.drew.ownsMap Tryd.prog 85 slE bm acc.length D := hmp
        obtain ⟨w11, hrun2, hM2, ht2⟩ := hmd.store keyEK Tryd.underlying69 (by unfold maxLen; omega) (key_en hft) hdd
        have hrun3 : (Instr.mapUpdate 69 (.map (some bm)) (.agg #[sv key, .int .i64 (sq : Int)]) u8).run Tryd.prog wc.drew = .ok () w11 := hrun2
        have m2 : Mod (fun j => j = bm) wc w11 := Mod.then_ ((Mod.refl (fun j => j = bm) wc).drew) (Mod.of_grown ht2.grown (fun j e => by injection e with e; exact e.symm)) (fun _ _ h => h)
        have bt2 := bt.mod m2 Kd.t.bg
        have ot2 := ot.mod m2 (fun j hj e => by
          obtain ⟨cur, hc⟩ := OwnR.ty ot hj
          exact hc.ne_map hmp e)
        have hbx2 := hbx.mod m2 (fun e => by have := Kd.t.sm.2; omega)
        have q1 : wc.drew.cell? ⟨g, 1, none⟩ = some (.map (some bm)) ∧ wc.drew.cell? ⟨N, 0, none⟩ = some (sv key) ∧ wc.drew.cell? ⟨N, 1, none⟩ = some (.int .i64 (sq : Int)) := ⟨bt.cell 1, hbx.cell 0, hbx.cell 1⟩
        have q2 : w11.cell? ⟨g, 1, none⟩ = some (.map (some bm)) ∧ w11.cell? ⟨N, 0, none⟩ = some (sv key) ∧ w11.cell? ⟨N, 1, none⟩ = some (.int .i64 (sq : Int)) := ⟨bt2.cell 1, hbx2.cell 0, hbx2.cell 1⟩
        have hnv : hasV acc ⟨key, (sq : Int)⟩ = false := hhv.out.symm
        have Kn := Kd.more (e := ⟨key, (sq : Int)⟩) (cs := cs) bt2 ot2 hM2 rfl hdd nt mt m2 od hfr hft hnv
        have hrmn := Kn.r.rms
        have hfx := mapp acc ((⟨key, (sq : Int)⟩, cs), u8)
        rw [← hfx] at hr2
        have hal : (acc ++ [(((⟨key, (sq : Int)⟩ : En), cs), u8)]).length = acc.length + 1 := by simp
        clear hrun2 hmd hmp hM2 ht2 bt ot bt2 ot2 hbx hbx2 hcc oN q0 qa mt m2 nt Kd Bd od hfr hdd hfx hhv hnv
        go_wp2_with fail
        go_region_held3 (fun wx => wx.cell? ⟨g, 1, none⟩ = some (.map (some bm)) ∧ wx.cell? ⟨N, 0, none⟩ = some (sv key) ∧ wx.cell? ⟨N, 1, none⟩ = some (.int .i64 (sq : Int))) (first | exact q1 | exact q2) (fail)
        all_goals go_wp2_with fail
        all_goals exact ⟨⟨k + 1, s3, v8, ve', _, _, by go_num, by omega, hr2, Kn, by rw [hal]; omega⟩, by rw [hrmn, hrm]; exact hmm⟩
end Go.Proofs.YthohghnfiicndaaDoor
