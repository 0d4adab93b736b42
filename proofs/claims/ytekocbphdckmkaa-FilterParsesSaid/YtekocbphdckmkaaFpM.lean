/- filter: the program's reader: kids. -/
import Derived.Test.YtekocbphdckmkaaFpL
namespace Go.Proofs.Ytekocbphdckmkaa
open Go.RowKit
set_option maxRecDepth 100000

theorem KAt.ext {n : Nat} {w wr wx : World} {g p fb : Nat} {kd : Int} {s : List UInt8} {v : Value} {C : List FiC} {j : Nat} (K : KAt n w wr g p fb kd s v C j) (x : Ext wr wx) : KAt n w wx g p fb kd s v C j :=
  ⟨K.bf.mod x (fun h => h), K.bp.mod x (fun h => h), K.ow.ext x, K.fr, fun y hy => (K.kids y hy).ext x, K.rd.mod x (fun h => h), K.mod.then_ x (fun _ _ h => h.elim), K.jl, K.cl⟩
/-- One kid more. -/
theorem KAt.next {n : Nat} {w wr w9 w10 w11 : World} {g p fb : Nat} {kd : Int} {s : List UInt8} {v v' : Value} {C : List FiC} {j j9 : Nat} (K : KAt n w wr g p fb kd s v C j) (hp : p = w.heap.size) (hfp : fb = p + 1) (hg : g < w.heap.size)
    {F : Fi} {vs vk : Value} (y9 : Mod (fun b => b = g) wr w9) (r9 : Rd w9 g s j9) (hF : FilS (fun b => wr.heap.size ≤ b) n w9 F vs vk) (hj : j < j9) (hj9 : j9 ≤ s.length)
    (x10 : Ext w9 w10) (o11 : OwnR fic 5 w11 25 v' (C ++ [(F, vs, vk)])) (m11 : Mod (own v) w10 w11) (nx : Next w10.heap.size v v') :
    KAt n w (w11.setCell ⟨fb, 4, none⟩ v') g p fb kd s v' (C ++ [(F, vs, vk)]) j9 := by
  have hsz : w.heap.size ≤ wr.heap.size := K.mod.size
  have hs9 := y9.size
  have hs10 := x10.size
  have hpw := K.bp.lt
  have hfw := K.bf.lt
  have hvg : ∀ b, own v b → w.heap.size + 2 ≤ b := fun b hb => K.fr b hb
  have hv'g : Fresh (w.heap.size + 2) v' := nx.fresh K.fr (by omega)
  have yf : Mod (fun b => b = fb) w11 (w11.setCell ⟨fb, 4, none⟩ v') := (Mod.refl (fun b => b = fb) w11).setCell (p := ⟨fb, 4, none⟩) (fun _ => rfl) v'
  refine ⟨?_, ?_, o11.mod yf (fun b hb h => by have := hv'g b hb; have : b = fb := h; omega), hv'g, ?_, ?_, ?_, hj9, ?_⟩
  · exact (((K.bf.mod y9 (fun h => by have : fb = g := h; omega)).mod x10 (fun h => h)).mod m11 (fun h => by have := hvg _ h; omega)).set_ 4 v'
  · exact (((K.bp.mod y9 (fun h => by have : p = g := h; omega)).mod x10 (fun h => h)).mod m11 (fun h => by have := hvg _ h; omega)).mod yf (fun h => by have : p = fb := h; omega)
  · intro x hx
    have key : ∀ {F' : Fi} {a b : Value}, FilS (fun b => w.heap.size + 2 ≤ b ∧ ¬ own v b) n w10 F' a b → FilS (fun b => w.heap.size + 2 ≤ b ∧ ¬ own v' b) n (w11.setCell ⟨fb, 4, none⟩ v') F' a b := fun h => by
      have h1 : FilS (fun b => (w.heap.size + 2 ≤ b ∧ ¬ own v b) ∧ ¬ own v' b) n w10 _ _ _ := h.mono (fun k hk hS => ⟨hS, fun ho => hS.2 (nx.sub hk ho)⟩)
      exact ((h1.mod m11 (fun k _ hS ho => hS.1.2 ho)).mod yf (fun k _ hS hk => by have := hS.1.1; have : k = fb := hk; omega)).mono (fun k _ hS => ⟨hS.1.1, hS.2⟩)
    rcases List.mem_append.1 hx with hx | hx
    · exact key (((K.kids x hx).mod y9 (fun k _ hS hk => by have := hS.1; have : k = g := hk; omega)).ext x10)
    · rw [List.mem_singleton.1 hx]
      exact key ((hF.mono (fun k _ hk => ⟨by omega, fun ho => by have := K.ow.lt ho; omega⟩)).ext x10)
  · exact ((r9.mod x10 (fun h => h)).mod m11 (fun h => by have := hvg _ h; omega)).mod yf (fun h => by have : g = fb := h; omega)
  · exact (((K.mod.then_ y9 (fun _ _ h => h)).then_ x10 (fun _ _ h => h.elim)).then_ m11 (fun b hb h => by have := hvg _ h; omega)).then_ yf (fun b hb h => by have : b = fb := h; omega)
  · rw [List.length_append, List.length_singleton]
    have := K.cl
    omega
set_option maxHeartbeats 16000000 in
theorem fkids_any {n : Nat} (ih : FilIH n) (hn : n ≤ 15) {w : World} {g : Nat} {s : List UInt8} {k : Nat} {kd : Int} {b : Bool} (hkd : (kd = 0 ∧ b = true) ∨ (kd = 1 ∧ b = true) ∨ (kd = 2 ∧ b = false)) (h : Rd w g s k) (hk : k < s.length) (hl : s.length ≤ 1000000) :
    Calls Try.prog 43 #[.pointer (some ⟨g, 0, none⟩), .int .i64 kd, .int .i64 (16 - (n : Int))] w fun e w' => FOut (n + 1) (kidsP (filP n) kd b (s.drop (k + 1))) w.heap.size w' g s e ∧ Mod (fun b => b = g) w w' := by
  have hgB := h.lt
  obtain ⟨U, hU⟩ : ∃ U, U = kidsP (filP n) kd b (s.drop (k + 1)) := ⟨_, rfl⟩
  rw [← hU]
  obtain ⟨M, hM⟩ : ∃ M, M = manyP (filP n) ((s.drop (k + 1)).length + 1) b [] (s.drop (k + 1)) := ⟨_, rfl⟩
  have hUM : ∀ K R', M = .ok (K, R') → U = .ok (.mk kd [] [] [] K, R') := fun K R' e => by rw [hU]; unfold kidsP; rw [← hM, e]
  have hUE : ∀ x, M = .error x → U = .error x := fun x e => by rw [hU]; unfold kidsP; rw [← hM, e]
  clear hU
  have hkr : -9223372036854775808 ≤ kd ∧ kd ≤ 9223372036854775807 := by omega
  obtain ⟨w1, hw1⟩ : ∃ y7 : World, y7 = w.alloc (.cells z5 25) := ⟨_, rfl⟩
  obtain ⟨p, hp⟩ : ∃ p, p = w.heap.size := ⟨_, rfl⟩
  have x1 : Ext w w1 := by rw [hw1]; exact (Mod.refl _ w).alloc _
  have B1 : Blk w1 p 25 z5 := by rw [hw1, hp]; exact Blk.new w _ _
  have hw1s : w1.heap.size = p + 1 := by rw [hw1, hp]; simp
  have r1 := h.mod x1 (fun h => h)
  have m1 : Mod (fun b => b = g) w w1 := x1.mono (fun _ _ h => h.elim)
  have hpg : p ≠ g := by omega
  have hgp : g ≠ p := by omega
  have hpn : ¬ p < w.heap.size := by omega
  have hmodp : ∀ {wx : World} (a b c d e : Value), Mod (fun b => b = g) w wx → Mod (fun b => b = g) w (W5 wx p a b c d e) := fun a b c d e m => mod5 m (fun h => absurd h hpn) a b c d e
  obtain ⟨c0, c1⟩ := r1.c
  have z1 := Blk.frozen r1 1
  have r2 := r1.step
  have y2 := step_mod (w := w1) (g := g) (.int .i64 ((k : Int) + 1))
  replace hw1 := Lib.hid hw1
  replace hp := Lib.hid hp
  replace hM := Lib.hid hM
  replace hUM := Lib.hid hUM
  replace hUE := Lib.hid hUE
  clear h
  go_enter Try.func43, Try.ntmps43
  go_upto_region 1 with fail
  rw [← hw1.out, ← hp.out]
  go_upto_region 2 with fail
  obtain ⟨w2, hw2⟩ : ∃ y7 : World, y7 = w1.setCell ⟨g, 1, none⟩ (.int .i64 ((k : Int) + 1)) := ⟨_, rfl⟩
  rw [← hw2] at r2 y2 ⊢
  have m2 := m1.then_ y2 (fun _ _ h => h)
  have B2 := B1.mod y2 hpg
  have hw2s : w2.heap.size = p + 1 := by rw [hw2]; simpa using hw1s
  clear hw2 c0 c1 z1 r1 m1 B1 y2 hw1s
  obtain ⟨w3, hw3⟩ : ∃ y7 : World, y7 = w2.alloc (.cells #[.int .i64 kd, sv [], sv [], .slice none 0 0, .slice none 0 0] 25) := ⟨_, rfl⟩
  obtain ⟨fb, hfb⟩ : ∃ p, p = w2.heap.size := ⟨_, rfl⟩
  have x3 : Ext w2 w3 := by rw [hw3]; exact (Mod.refl _ w2).alloc _
  have F3 : Blk w3 fb 25 #[.int .i64 kd, sv [], sv [], .slice none 0 0, .slice none 0 0] := by rw [hw3, hfb]; exact Blk.new w2 _ _
  have K3 : KAt n w w3 g p fb kd s (.slice none 0 0) [] (k + 1) := ⟨F3, B2.mod x3 (fun h => h), OwnR.nil _ _ _ _, fresh_nil _ _ _, fun x hx => absurd hx List.not_mem_nil, r2.mod x3 (fun h => h), m2.then_ x3 (fun _ _ h => h.elim), by omega, Nat.zero_le _⟩
  have hfp : fb = p + 1 := by omega
  have hfg : fb ≠ g := by have := r2.lt; omega
  replace hw3 := Lib.hid hw3
  replace hfb := Lib.hid hfb
  replace hw2s := Lib.hid hw2s
  clear r2 m2 B2 x3 F3 x1
  have hpv := hp.out
  clear hpn
  replace hpv := Lib.hid hpv
  replace hfp := Lib.hid hfp
  go_wp2_with fail
  rw [← hw3.out, ← hfb.out]
  go_loopw [] (fun wr => ∃ (j m : Nat) (v : Value) (C : List FiC), KAt n w wr g p fb kd s v C j ∧ Hid (M = manyP (filP n) m b (C.map (·.1)) (s.drop j) ∧ s.length < m + j)) (fun wr => s.length - rdAt wr g)
  case atStart => exact ⟨k + 1, _, _, [], K3, Lib.hid ⟨hM.out, by rw [List.length_drop]; omega⟩⟩
  case round =>
    clear K3 hM
    obtain ⟨j, m, v, C, K, hm⟩ := hrel
    have hat := K.rd.at_
    obtain ⟨m, rfl⟩ : ∃ m', m = m' + 1 := ⟨m - 1, by have := hm.out.2; have := K.jl; omega⟩
    obtain ⟨q, hq⟩ : ∃ q : Bool, q = decide (C.map (·.1) = [] ∨ (b = true ∧ (s.drop j).head? = some 40)) := ⟨_, rfl⟩
    replace hq := Lib.hid hq
    go_upto_region 3 with fail
    go_cut [32] (fun s32 wx => s32 = .bool q ∧ Ext wr wx)
    case first =>
      obtain ⟨A, c, rfl⟩ := K.ow.shape
      have cf4 : wr.cell? ⟨fb, 4, none⟩ = some (.slice A C.length c) := K.bf.cell 4
      by_cases hC : C = []
      · have hqt : q = true := by rw [hq.out]; exact dtrue (.inl (by rw [hC]; rfl))
        have hl0 : ((C.length : Int) == 0) = true := by rw [hC]; rfl
        subst hqt
        clear hC hm hq
        go_wp2_with fail
        go_meet
        exact ⟨rfl, Mod.refl _ _⟩
      have hl0 : ((C.length : Int) == 0) = false := beq_eq_false_iff_ne.2 (fun h => hC (List.eq_nil_of_length_eq_zero (by omega)))
      have hCm : C.map (·.1) ≠ [] := fun h => hC (List.map_eq_nil_iff.1 h)
      obtain ⟨d, hd⟩ : ∃ d, d = (s.drop j).headD 0 := ⟨_, rfl⟩
      have hnx := next_any K.rd K.jl
      rw [← hd] at hnx
      have hh : (s.drop j).head? = some 40 ↔ d = 40 := by
        rw [hd]
        cases s.drop j with
        | nil => simp
        | cons a R => simp
      have hqd : b = true → q = ((d.toNat : Int) == 40) := fun hb => by
        rw [hq.out]
        by_cases hd4 : d = 40
        · rw [show ((d.toNat : Int) == 40) = true from byte_eq d (n := 40) (by omega) hd4]
          exact dtrue (.inr ⟨hb, hh.2 hd4⟩)
        · rw [show ((d.toNat : Int) == 40) = false from byte_ne d (n := 40) (by omega) hd4]
          exact dfalse (fun h => h.elim hCm (fun h => hd4 (hh.1 h.2)))
      have hqf : b = false → q = false := fun hb => by
        rw [hq.out]
        exact dfalse (fun h => h.elim hCm (fun h => by rw [hb] at h; exact absurd h.1 (by decide)))
      replace hd := Lib.hid hd
      clear hm hq hh hC hCm K
      rcases hkd with ⟨rfl, rfl⟩ | ⟨rfl, rfl⟩ | ⟨rfl, rfl⟩
      · have hqq := Lib.hid (hqd rfl)
        clear hqd hqf
        go_wp2_with fail
        refine hnx.mono ?_
        rintro e w4 ⟨rfl, n4, hw4⟩
        have x4 : Ext wr w4 := by rw [hw4]; exact (Mod.refl _ wr).drewN n4
        clear hw4
        go_wp2_with fail
        go_meet
        exact ⟨by rw [hqq.out], x4⟩
      · have hqq := Lib.hid (hqd rfl)
        clear hqd hqf
        go_wp2_with fail
        refine hnx.mono ?_
        rintro e w4 ⟨rfl, n4, hw4⟩
        have x4 : Ext wr w4 := by rw [hw4]; exact (Mod.refl _ wr).drewN n4
        clear hw4
        go_wp2_with fail
        go_meet
        exact ⟨by rw [hqq.out], x4⟩
      · have hqq := Lib.hid (hqf rfl)
        clear hqd hqf
        go_wp2_with fail
        go_meet
        exact ⟨by rw [hqq.out], Mod.refl _ _⟩
    case rest =>
    obtain ⟨rfl, x4⟩ := hcut
    replace K := K.ext x4
    clear x4
    have hdp : (16 - (n : Int)) + 1 = 17 - (n : Int) := by omega
    cases q
    · have hMok : M = .ok (C.map (·.1), s.drop j) := by
        rw [hm.out.1, manyP, if_neg (of_decide_eq_false hq.out.symm)]
      have hU2 := Lib.hid (hUM.out _ _ hMok)
      obtain ⟨A, c, rfl⟩ := K.ow.shape
      have hCl : C.length ≤ 1000000 := by have := K.cl; have := K.jl; omega
      have hFB : FB (.mk kd [] [] [] (C.map (·.1))) := ⟨hkr, by simp [Fi.typ], by simp [Fi.val], by simp [Fi.subs], by simp [Fi.subs], by show (C.map (·.1)).length * 88 ≤ _; rw [List.length_map]; omega⟩
      have hpw := K.bp.lt
      have hFS : FilS (fun b => w.heap.size + 2 ≤ b) (n + 1) wc (.mk kd [] [] [] (C.map (·.1))) (.slice none 0 0) (.slice A C.length c) := ⟨hFB, Sl.nil _ _, C, K.ow.rc.mono (fun b _ hb => K.fr b hb), rfl, fun x hx => (K.kids x hx).mono (fun b _ h => h.1)⟩
      obtain ⟨⟨f0, f1, f2, f3, f4⟩, e0, e1, e2, e3, e4⟩ := K.bp.five
      obtain ⟨-, q0, q1, q2, q3, q4⟩ := K.bf.five
      have hBp := K.bp
      have hRd := K.rd
      have hMo := K.mod
      have hJl := K.jl
      clear K hm hq hMok hUM hUE
      go_wp2_with fail
      refine bodyPost_ret (results_cell_row2 Try.results43 _ _ _ _ _ _ _ rfl (hBp.set5 _ _ _ _ _) Try.underlying25 rfl (by kernel_rfl)) rfl ?_
      exact ⟨⟨_, _, _, 0, j, rfl, hJl, Blk.far5 hRd hgp _ _ _ _ _, .inr ⟨hU2.out, rfl, (hFS.mod (mod5_at wc p _ _ _ _ _) (fun b hb h1 h2 => by have := hp.out; have : b = p := h2; omega)).mono (fun b _ h => by omega)⟩⟩, hmodp _ _ _ _ _ hMo⟩
    · have hMs : (∀ x, filP n (s.drop j) = .error x → M = .error x) ∧ ∀ F R', filP n (s.drop j) = .ok (F, R') → M = manyP (filP n) m b (C.map (·.1) ++ [F]) R' := by
        have h := hm.out.1
        rw [manyP, if_pos (of_decide_eq_true hq.out.symm)] at h
        exact ⟨fun x e => by rw [e] at h; exact h, fun F R' e => by rw [e] at h; exact h⟩
      have hms := hm.out.2
      have hih := ih K.rd K.jl hl
      replace hMs := Lib.hid hMs
      replace hih := Lib.hid hih
      clear hm hq
      go_wp2_with fail
      refine hih.out.mono ?_
      rintro e w9 ⟨⟨F, vs, vk, x, j9, rfl, hj9, r9, hcase⟩, y9⟩
      obtain ⟨w10, hw10⟩ : ∃ y7 : World, y7 = w9.alloc (.cells #[.int .i64 F.kind, sv F.typ, sv F.val, vs, vk] 25) := ⟨_, rfl⟩
      obtain ⟨kb, hkb⟩ : ∃ p, p = w9.heap.size := ⟨_, rfl⟩
      have x10 : Ext w9 w10 := by rw [hw10]; exact (Mod.refl _ w9).alloc _
      have BK : Blk w10 kb 25 #[.int .i64 F.kind, sv F.typ, sv F.val, vs, vk] := by rw [hw10, hkb]; exact Blk.new w9 _ _
      have hgo := filP_goes n
      replace hw10 := Lib.hid hw10
      replace hkb := Lib.hid hkb
      rcases hcase with ⟨hR, hx0, rfl, rfl, rfl⟩ | ⟨hR, rfl, hF⟩
      · have hU2 := hUE.out x (hMs.out.1 x hR)
        replace hU2 := Lib.hid hU2
        have hne : ((x : Int) != 0) = true := bne_iff_ne.2 (by omega)
        have B10 := (K.bp.mod y9 hpg).mod x10 (fun h => h)
        have r10 := r9.mod x10 (fun h => h)
        have m10 := (K.mod.then_ y9 (fun _ _ h => h)).then_ x10 (fun _ _ h => h.elim)
        obtain ⟨⟨f0, f1, f2, f3, f4⟩, e0, e1, e2, e3, e4⟩ := B10.five
        clear K hMs hih hR hUM hUE hgo BK
        go_upto_region 5 with fail
        rw [← hw10.out]
        go_wp2_with fail
        refine bodyPost_ret (results_cell_row2 Try.results43 _ _ _ _ _ _ _ rfl (B10.set5 _ _ _ _ _) Try.underlying25 rfl (by kernel_rfl)) rfl ?_
        exact ⟨⟨fz, _, _, x, j9, rfl, hj9, Blk.far5 r10 hgp _ _ _ _ _, .inl ⟨hU2.out, hx0, rfl, rfl, rfl⟩⟩, hmodp _ _ _ _ _ m10⟩
      · have hM2 : M = manyP (filP n) m b ((C ++ [(F, vs, vk)]).map (·.1)) (s.drop j9) := by rw [hMs.out.2 _ _ hR, List.map_append]; rfl
        have hlt := hgo _ _ _ hR
        rw [List.length_drop, List.length_drop] at hlt
        have hjj : j < j9 := by have := K.jl; omega
        obtain ⟨⟨As, cs, rfl⟩, Ak, ck, rfl⟩ := hF.shape
        obtain ⟨A, c, rfl⟩ := K.ow.shape
        obtain ⟨D, hD⟩ : ∃ D, D = C ++ [(F, .slice As F.subs.length cs, .slice Ak F.kids.length ck)] := ⟨_, rfl⟩
        rw [← hD] at hM2
        replace hD := Lib.hid hD
        have hCl : C.length ≤ 1000000 := by have := K.cl; have := K.jl; omega
        have hn1 := Lib.hid (show (C.length + 1) * 88 ≤ 140737488355328 by omega)
        have cf4 : w10.cell? ⟨fb, 4, none⟩ = some (.slice A C.length c) := ((K.bf.mod y9 hfg).mod x10 (fun h => h)).cell 4
        obtain ⟨-, q0, q1, q2, q3, q4⟩ := BK.five
        have hown10 : OwnR fic 5 w10 25 (.slice A C.length c) C := (K.ow.mod y9 (fun b hb h => by have := K.fr b hb; have : b = g := h; omega)).ext x10
        have hfv : ∀ b, own (.slice A C.length c) b → b ≠ fb := fun b hb => by have := K.fr b hb; have := hfp.out; have := hp.out; omega
        replace hM2 := Lib.hid hM2
        clear hMs hih hR hUM hUE hgo BK
        go_upto_region 5 with fail
        rw [← hw10.out, ← hkb.out]
        go_wp2_with ((with_reducible show wpList _ _ _ (⟨some 48, _, _, _, _, _⟩ :: _) _ _); refine wp_appR tyF fic_len hown10 (x := (F, .slice As F.subs.length cs, .slice Ak F.kids.length ck)) rfl fic_ok hn1.out rfl (.tmp 45) (.tmp 47) rfl rfl rfl ?_; intro v' w11 g1 g2 g3; have K2 := K.next hp.out hfp.out hgB y9 r9 hF hjj hj9 x10 g1 g2 g3; rw [← hD.out] at g1 K2; obtain ⟨A', c', rfl⟩ := g1.shape; have z4 : w11.frozen? ⟨fb, 4, none⟩ = false := Blk.frozen (((K.bf.mod y9 hfg).mod x10 (fun h => h)).mod g2 (fun h => hfv _ h rfl)) 4; have z4c : w11.cell? ⟨fb, 4, none⟩ = some (.slice A C.length c) := (((K.bf.mod y9 hfg).mod x10 (fun h => h)).mod g2 (fun h => hfv _ h rfl)).cell 4)
        refine ⟨⟨j9, m, _, D, K2, Lib.hid ⟨hM2.out, by omega⟩⟩, ?_⟩
        rw [K2.rd.at_, hat]
        have := K.jl
        omega
end Go.Proofs.Ytekocbphdckmkaa
