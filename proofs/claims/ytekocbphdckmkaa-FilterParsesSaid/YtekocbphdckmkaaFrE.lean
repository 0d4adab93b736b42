/- filter: the document's reader: kids. -/
import Derived.Test.YtekocbphdckmkaaFrD
namespace Go.Proofs.Ytekocbphdckmkaa
open Go.RowKit
set_option maxRecDepth 100000

/-- What a reader of the document's gives, of what it is to give: an error, or a filter. -/
def FOut3 (n : Nat) (R : PR) (B : Nat) (w' : World) (g : Nat) (s : List UInt8) (e : Ending) : Prop :=
  ∃ (F : Fi) (vs vk : Value) (x j : Nat), e = .returned (filV F vs vk) ∧ (-9223372036854775808 ≤ F.kind ∧ F.kind ≤ 9223372036854775807) ∧ (∃ A m c, vs = .slice A m c) ∧ (∃ A m c, vk = .slice A m c) ∧ j ≤ s.length ∧ R3 w' g s j x ∧
    ((R = .error x ∧ x ≠ 0) ∨ (R = .ok (F, s.drop j) ∧ x = 0 ∧ FilS (fun b => B ≤ b) n w' F vs vk))
/-- What the document's filter gives. -/
def FilIH3 (n : Nat) : Prop := ∀ {w : World} {g : Nat} {s : List UInt8} {k : Nat}, R3 w g s k 0 → k ≤ s.length → s.length ≤ 1000000 →
  Calls Try.prog 21 #[.pointer (some ⟨g, 0, none⟩), .int .i64 (17 - (n : Int))] w fun e w' => FOut3 n (filP n (s.drop k)) w.heap.size w' g s e ∧ Mod (fun b => b = g) w w'
/-- The kids that have come. -/
structure KAt3 (n : Nat) (w wr : World) (g p fb : Nat) (kd : Int) (s : List UInt8) (v : Value) (C : List FiC) (j : Nat) : Prop where
  bf : Blk wr fb 25 #[.int .i64 kd, sv [], sv [], .slice none 0 0, v]
  bp : Blk wr p 25 z5
  ow : OwnR fic 5 wr 25 v C
  fr : Fresh (w.heap.size + 2) v
  kids : ∀ x ∈ C, FilS (fun b => w.heap.size + 2 ≤ b ∧ ¬ own v b) n wr x.1 x.2.1 x.2.2
  rd : R3 wr g s j 0
  mod : Mod (fun b => b = g) w wr
  jl : j ≤ s.length
  cl : C.length ≤ j
theorem KAt3.ext {n : Nat} {w wr wx : World} {g p fb : Nat} {kd : Int} {s : List UInt8} {v : Value} {C : List FiC} {j : Nat} (K : KAt3 n w wr g p fb kd s v C j) (x : Ext wr wx) : KAt3 n w wx g p fb kd s v C j :=
  ⟨K.bf.mod x (fun h => h), K.bp.mod x (fun h => h), K.ow.ext x, K.fr, fun y hy => (K.kids y hy).ext x, K.rd.mod x (fun h => h), K.mod.then_ x (fun _ _ h => h.elim), K.jl, K.cl⟩
/-- One kid more. -/
theorem KAt3.next {n : Nat} {w wr w9 w10 w11 : World} {g p fb : Nat} {kd : Int} {s : List UInt8} {v v' : Value} {C : List FiC} {j j9 : Nat} (K : KAt3 n w wr g p fb kd s v C j) (hp : p = w.heap.size) (hfp : fb = p + 1) (hg : g < w.heap.size)
    {F : Fi} {vs vk : Value} (y9 : Mod (fun b => b = g) wr w9) (r9 : R3 w9 g s j9 0) (hF : FilS (fun b => wr.heap.size ≤ b) n w9 F vs vk) (hj : j < j9) (hj9 : j9 ≤ s.length)
    (x10 : Ext w9 w10) (o11 : OwnR fic 5 w11 25 v' (C ++ [(F, vs, vk)])) (m11 : Mod (own v) w10 w11) (nx : Next w10.heap.size v v') :
    KAt3 n w (w11.setCell ⟨fb, 4, none⟩ v') g p fb kd s v' (C ++ [(F, vs, vk)]) j9 := by
  have hsz : w.heap.size ≤ wr.heap.size := K.mod.size
  have hs9 := y9.size
  have hs10 := x10.size
  have hpw := K.bp.lt
  have hfw := K.bf.lt
  have hvg : ∀ b, own v b → w.heap.size + 2 ≤ b := fun b hb => K.fr b hb
  have hv'g : Fresh (w.heap.size + 2) v' := nx.fresh K.fr (by omega)
  have yf : Mod (fun b => b = fb) w11 (w11.setCell ⟨fb, 4, none⟩ v') := (Mod.refl (fun b => b = fb) w11).setCell (p := ⟨fb, 4, none⟩) (fun _ => rfl) v'
  refine ⟨?_, ?_, o11.mod yf (fun b hb h => by have := hv'g b hb; have : b = fb := h; omega), hv'g, ?_, ?_, ?_, hj9, ?_⟩
  · exact (((K.bf.mod y9 (fun h => by have : fb = g := h; omega)).mod x10 (fun h => h)).mod m11 (fun h => by have := hvg _ h; omega)).set_ 4 v'
  · exact (((K.bp.mod y9 (fun h => by have : p = g := h; omega)).mod x10 (fun h => h)).mod m11 (fun h => by have := hvg _ h; omega)).mod yf (fun h => by have : p = fb := h; omega)
  · intro x hx
    have key : ∀ {F' : Fi} {a b : Value}, FilS (fun b => w.heap.size + 2 ≤ b ∧ ¬ own v b) n w10 F' a b → FilS (fun b => w.heap.size + 2 ≤ b ∧ ¬ own v' b) n (w11.setCell ⟨fb, 4, none⟩ v') F' a b := fun h => by
      have h1 : FilS (fun b => (w.heap.size + 2 ≤ b ∧ ¬ own v b) ∧ ¬ own v' b) n w10 _ _ _ := h.mono (fun k hk hS => ⟨hS, fun ho => hS.2 (nx.sub hk ho)⟩)
      exact ((h1.mod m11 (fun k _ hS ho => hS.1.2 ho)).mod yf (fun k _ hS hk => by have := hS.1.1; have : k = fb := hk; omega)).mono (fun k _ hS => ⟨hS.1.1, hS.2⟩)
    rcases List.mem_append.1 hx with hx | hx
    · exact key (((K.kids x hx).mod y9 (fun k _ hS hk => by have := hS.1; have : k = g := hk; omega)).ext x10)
    · rw [List.mem_singleton.1 hx]
      exact key ((hF.mono (fun k _ hk => ⟨by omega, fun ho => by have := K.ow.lt ho; omega⟩)).ext x10)
  · exact ((r9.mod x10 (fun h => h)).mod m11 (fun h => by have := hvg _ h; omega)).mod yf (fun h => by have : g = fb := h; omega)
  · exact (((K.mod.then_ y9 (fun _ _ h => h)).then_ x10 (fun _ _ h => h.elim)).then_ m11 (fun b hb h => by have := hvg _ h; omega)).then_ yf (fun b hb h => by have : b = fb := h; omega)
  · rw [List.length_append, List.length_singleton]
    have := K.cl
    omega

/-- A reader's error. -/
def erAt (w : World) (g : Nat) : Nat := (intOf ((w.cell? ⟨g, 2, none⟩).getD undef)).toNat
theorem R3.er {w : World} {g : Nat} {s : List UInt8} {k x : Nat} (h : R3 w g s k x) : erAt w g = x := by
  unfold erAt
  rw [h.c.2.2]
  simp [intOf]
/-- How much is left to a reader. -/
def measR (w : World) (g l : Nat) : Nat := if erAt w g = 0 then 1 + (l - rdAt w g) else 0
/-- The kids that have come, an error behind them. -/
structure EAt (w wr : World) (g p fb : Nat) (kd : Int) (s : List UInt8) (v : Value) (j x : Nat) : Prop where
  bf : Blk wr fb 25 #[.int .i64 kd, sv [], sv [], .slice none 0 0, v]
  bp : Blk wr p 25 z5
  rd : R3 wr g s j x
  mod : Mod (fun b => b = g) w wr
  jl : j ≤ s.length
  x0 : x ≠ 0
theorem EAt.ext {w wr wx : World} {g p fb : Nat} {kd : Int} {s : List UInt8} {v : Value} {j x : Nat} (K : EAt w wr g p fb kd s v j x) (e : Ext wr wx) : EAt w wx g p fb kd s v j x :=
  ⟨K.bf.mod e (fun h => h), K.bp.mod e (fun h => h), K.rd.mod e (fun h => h), K.mod.then_ e (fun _ _ h => h.elim), K.jl, K.x0⟩
/-- An error behind one kid more. -/
theorem KAt3.bad {n : Nat} {w wr w9 w10 w11 : World} {g p fb : Nat} {kd : Int} {s : List UInt8} {v v' : Value} {C : List FiC} {j j9 x : Nat} (K : KAt3 n w wr g p fb kd s v C j) (hp : p = w.heap.size) (hfp : fb = p + 1) (hg : g < w.heap.size)
    (y9 : Mod (fun b => b = g) wr w9) (r9 : R3 w9 g s j9 x) (hj9 : j9 ≤ s.length) (hx : x ≠ 0)
    (x10 : Ext w9 w10) (m11 : Mod (own v) w10 w11) : EAt w (w11.setCell ⟨fb, 4, none⟩ v') g p fb kd s v' j9 x := by
  have hsz : w.heap.size ≤ wr.heap.size := K.mod.size
  have hvg : ∀ b, own v b → w.heap.size + 2 ≤ b := fun b hb => K.fr b hb
  have yf : Mod (fun b => b = fb) w11 (w11.setCell ⟨fb, 4, none⟩ v') := (Mod.refl (fun b => b = fb) w11).setCell (p := ⟨fb, 4, none⟩) (fun _ => rfl) v'
  refine ⟨?_, ?_, ?_, ?_, hj9, hx⟩
  · exact (((K.bf.mod y9 (fun h => by have : fb = g := h; omega)).mod x10 (fun h => h)).mod m11 (fun h => by have := hvg _ h; omega)).set_ 4 v'
  · exact (((K.bp.mod y9 (fun h => by have : p = g := h; omega)).mod x10 (fun h => h)).mod m11 (fun h => by have := hvg _ h; omega)).mod yf (fun h => by have : p = fb := h; omega)
  · exact ((r9.mod x10 (fun h => h)).mod m11 (fun h => by have := hvg _ h; omega)).mod yf (fun h => by have : g = fb := h; omega)
  · exact (((K.mod.then_ y9 (fun _ _ h => h)).then_ x10 (fun _ _ h => h.elim)).then_ m11 (fun b hb h => by have := hvg _ h; omega)).then_ yf (fun b hb h => by have : b = fb := h; omega)
set_option maxHeartbeats 64000000 in
theorem rkids_any {n : Nat} (ih : FilIH3 n) (hn : n ≤ 15) {w : World} {g : Nat} {s : List UInt8} {k : Nat} {kd : Int} (hkd : kd = 0 ∨ kd = 1) (h : R3 w g s k 0) (hk : k ≤ s.length) (hl : s.length ≤ 1000000) :
    Calls Try.prog 34 #[.pointer (some ⟨g, 0, none⟩), .int .i64 kd, .int .i64 (16 - (n : Int))] w fun e w' => FOut3 (n + 1) (kidsP (filP n) kd true (s.drop k)) w.heap.size w' g s e ∧ Mod (fun b => b = g) w w' := by
  have hgB := h.lt
  have hsz := sv_size s
  obtain ⟨U, hU⟩ : ∃ U, U = kidsP (filP n) kd true (s.drop k) := ⟨_, rfl⟩
  rw [← hU]
  obtain ⟨M, hM⟩ : ∃ M, M = manyP (filP n) ((s.drop k).length + 1) true [] (s.drop k) := ⟨_, rfl⟩
  have hUM : ∀ K R', M = .ok (K, R') → U = .ok (.mk kd [] [] [] K, R') := fun K R' e => by rw [hU]; unfold kidsP; rw [← hM, e]
  have hUE : ∀ x, M = .error x → U = .error x := fun x e => by rw [hU]; unfold kidsP; rw [← hM, e]
  clear hU
  have hkr : -9223372036854775808 ≤ kd ∧ kd ≤ 9223372036854775807 := by omega
  clear hkd
  obtain ⟨w1, hw1⟩ : ∃ y7 : World, y7 = w.alloc (.cells z5 25) := ⟨_, rfl⟩
  obtain ⟨p, hp⟩ : ∃ p, p = w.heap.size := ⟨_, rfl⟩
  have x1 : Ext w w1 := by rw [hw1]; exact (Mod.refl _ w).alloc _
  have B1 : Blk w1 p 25 z5 := by rw [hw1, hp]; exact Blk.new w _ _
  have hw1s : w1.heap.size = p + 1 := by rw [hw1, hp]; simp
  have hpg : p ≠ g := by omega
  have hgp : g ≠ p := by omega
  have hpn : ¬ p < w.heap.size := by omega
  have hmodp : ∀ {wx : World} (a b c d e : Value), Mod (fun b => b = g) w wx → Mod (fun b => b = g) w (W5 wx p a b c d e) := fun a b c d e m => mod5 m (fun h => absurd h hpn) a b c d e
  obtain ⟨w3, hw3⟩ : ∃ y7 : World, y7 = w1.alloc (.cells #[.int .i64 kd, sv [], sv [], .slice none 0 0, .slice none 0 0] 25) := ⟨_, rfl⟩
  obtain ⟨fb, hfb⟩ : ∃ p, p = w1.heap.size := ⟨_, rfl⟩
  have x3 : Ext w1 w3 := by rw [hw3]; exact (Mod.refl _ w1).alloc _
  have F3 : Blk w3 fb 25 #[.int .i64 kd, sv [], sv [], .slice none 0 0, .slice none 0 0] := by rw [hw3, hfb]; exact Blk.new w1 _ _
  have K3 : KAt3 n w w3 g p fb kd s (.slice none 0 0) [] k := ⟨F3, B1.mod x3 (fun h => h), OwnR.nil _ _ _ _, fresh_nil _ _ _, fun x hx => absurd hx List.not_mem_nil, (h.mod x1 (fun h => h)).mod x3 (fun h => h), (ext_trans x1 x3).mono (fun _ _ h => h.elim), hk, Nat.zero_le _⟩
  have hfp : fb = p + 1 := by omega
  have hfg : fb ≠ g := by omega
  replace hw1 := Lib.hid hw1
  replace hw3 := Lib.hid hw3
  replace hfb := Lib.hid hfb
  replace hp := Lib.hid hp
  replace hfp := Lib.hid hfp
  replace hM := Lib.hid hM
  replace hUM := Lib.hid hUM
  replace hUE := Lib.hid hUE
  clear h x1 x3 F3 B1 hw1s hpn
  go_enter Try.func34, Try.ntmps34
  go_upto_region 1 with fail
  rw [← hw1.out, ← hp.out]
  go_wp2_with fail
  rw [← hw3.out, ← hfb.out]
  clear hw1 hw3 hfb
  go_loopw [] (fun wr => ∃ (v : Value) (j x : Nat), (x = 0 ∧ ∃ (m : Nat) (C : List FiC), KAt3 n w wr g p fb kd s v C j ∧ Hid (M = manyP (filP n) m true (C.map (·.1)) (s.drop j) ∧ s.length < m + j)) ∨ (EAt w wr g p fb kd s v j x ∧ (∃ A m c, v = .slice A m c) ∧ Hid (M = .error x))) (fun wr => measR wr g s.length)
  case atStart => exact ⟨_, k, 0, .inl ⟨rfl, _, [], K3, Lib.hid ⟨hM.out, by rw [List.length_drop]; omega⟩⟩⟩
  case round =>
    clear K3 hM
    obtain ⟨v, j, x, hrel⟩ := hrel
    rcases hrel with ⟨rfl, m, C, K, hm⟩ | ⟨K, ⟨A, ms, cs, rfl⟩, hm⟩
    rotate_left
    · have hU2 := Lib.hid (hUE.out x hm.out)
      have hx0 := K.x0
      have hxb : ((x : Int) == 0) = false := beq_eq_false_iff_ne.2 (by omega)
      obtain ⟨c0, c1, c2⟩ := K.rd.c
      clear hm hUM hUE
      go_wp2_with fail
      go_quiet (fail)
      obtain ⟨w2, hw2⟩ : ∃ y7 : World, y7 = wr.drewN nq := ⟨_, rfl⟩
      rw [← hw2]
      have x2 : Ext wr w2 := by rw [hw2]; exact (Mod.refl _ wr).drewN nq
      have K2 := K.ext x2
      clear hw2 K c0 c1 c2 x2
      obtain ⟨⟨f0, f1, f2, f3, f4⟩, e0, e1, e2, e3, e4⟩ := K2.bp.five
      obtain ⟨-, q0, q1, q2, q3, q4⟩ := K2.bf.five
      have hBp := K2.bp
      have hRd := K2.rd
      have hMo := K2.mod
      have hJl := K2.jl
      clear K2
      go_wp2_with fail
      refine bodyPost_ret (results_cell_row Try.results34 _ _ _ _ _ _ _ rfl (hBp.set5 _ _ _ _ _) Try.underlying25 rfl (by kernel_rfl)) rfl ?_
      exact ⟨⟨.mk kd [] [] [] [], _, _, x, j, rfl, hkr, ⟨_, _, _, rfl⟩, ⟨_, _, _, rfl⟩, hJl, Blk.far5 hRd hgp _ _ _ _ _, .inl ⟨hU2.out, hx0⟩⟩, hmodp _ _ _ _ _ hMo⟩
    have hat := K.rd.at_
    have her := K.rd.er
    have hjl := K.jl
    have hms0 : measR wr g s.length = 1 + (s.length - j) := by unfold measR; rw [her, hat, if_pos rfl]
    replace hms0 := Lib.hid hms0
    clear hat her
    obtain ⟨m, rfl⟩ : ∃ m', m = m' + 1 := ⟨m - 1, by have := hm.out.2; omega⟩
    obtain ⟨A, c, rfl⟩ := K.ow.shape
    obtain ⟨c0, c1, c2⟩ := K.rd.c
    have cf4 : wr.cell? ⟨fb, 4, none⟩ = some (.slice A C.length c) := K.bf.cell 4
    have hCl : C.length ≤ 1000000 := by have := K.cl; omega
    by_cases hC : C = []
    · have hl0 : ((C.length : Int) == 0) = true := by rw [hC]; rfl
      have hgo : C.map (·.1) = [] ∨ (true = true ∧ (s.drop j).head? = some 40) := .inl (by rw [hC]; rfl)
      replace hgo := Lib.hid hgo
      clear hC
      go_wp2_with fail
      go_quiet (fail)
      obtain ⟨w2, hw2⟩ : ∃ y7 : World, y7 = wr.drewN nq := ⟨_, rfl⟩
      rw [← hw2]
      have x2 : Ext wr w2 := by rw [hw2]; exact (Mod.refl _ wr).drewN nq
      have K2 := K.ext x2
      clear hw2 K c0 c1 c2 cf4 x2
      have hMs : (∀ x, filP n (s.drop j) = .error x → M = .error x) ∧ ∀ F R', filP n (s.drop j) = .ok (F, R') → M = manyP (filP n) m true (C.map (·.1) ++ [F]) R' := by
        have h := hm.out.1
        rw [manyP, if_pos (hgo.out.imp id (fun h => ⟨rfl, h.2⟩))] at h
        exact ⟨fun x e => by rw [e] at h; exact h, fun F R' e => by rw [e] at h; exact h⟩
      have hms := hm.out.2
      have hgoL : ∀ F j9, filP n (s.drop j) = .ok (F, s.drop j9) → j < j9 := fun F j9 h => by
        have := filP_goes n _ _ _ h
        rw [List.length_drop, List.length_drop] at this
        omega
      replace hMs := Lib.hid hMs
      clear hm hgo
      obtain ⟨wd, hwd⟩ : ∃ y7 : World, y7 = w2.drew := ⟨_, rfl⟩
      have Kd := K2.ext (show Ext w2 wd by rw [hwd]; exact (Mod.refl _ w2).drew)
      have hih := ih Kd.rd hjl hl
      replace hih := Lib.hid hih
      have cfd : wd.cell? ⟨fb, 4, none⟩ = some (.slice A C.length c) := Kd.bf.cell 4
      have hdp : (16 - (n : Int)) + 1 = 17 - (n : Int) := by omega
      have hwr : IntKind.i64.wrap (17 - (n : Int)) = 17 - (n : Int) := wrap_small _ (by omega) (by omega)
      have hn1 := Lib.hid (show (C.length + 1) * 88 ≤ 140737488355328 by omega)
      clear K2
      go_upto_region 3 with fail
      refine wp_region_held_drew (S := fun _ => True) (by kernel_rfl) trivial (fun hH => ?_)
      clear hH
      have hT : (fun _ : World => True) w2.drew := trivial
      rw [← hwd] at hT ⊢
      clear hwd
      (refine wpAnyH_take (i := 0) (oi := ⟨_, _, _, _, _, _⟩) (v := ?tv1) rfl (by kernel_rfl) (by kernel_rfl) (by kernel_rfl) (fun _ _ _ h => h) (Or.inl ⟨by kernel_rfl, ?hy1⟩) (by assumption) ?rs1; (case hy1 => (intro wx hSw; (try dsimp only at hSw); go_simp; try with_reducible rfl)); try simp only [Act.put, List.setIfInBounds_toArray, List.set_cons_zero, List.set_cons_succ]; try simp only [List.getElem_toArray, List.getElem_cons_succ, List.getElem_cons_zero])
      (refine wpAnyH_take (i := 2) (oi := ⟨_, _, _, _, _, _⟩) (v := ?tv2) rfl (by kernel_rfl) (by kernel_rfl) (by kernel_rfl) (fun _ _ _ h => h) (Or.inl ⟨by kernel_rfl, ?hy2⟩) (by assumption) ?rs2; (case hy2 => (intro wx hSw; (try dsimp only at hSw); go_simp; try with_reducible rfl)); try simp only [Act.put, List.setIfInBounds_toArray, List.set_cons_zero, List.set_cons_succ]; try simp only [List.getElem_toArray, List.getElem_cons_succ, List.getElem_cons_zero])
      (refine wpAnyH_take (i := 3) (oi := ⟨_, _, _, _, _, _⟩) (v := ?tv3) rfl (by kernel_rfl) (by kernel_rfl) (by kernel_rfl) (fun _ _ _ h => h) (Or.inl ⟨by kernel_rfl, ?hy3⟩) (by assumption) ?rs3; (case hy3 => (intro wx hSw; (try dsimp only at hSw); go_simp; try with_reducible rfl)); try simp only [Act.put, List.setIfInBounds_toArray, List.set_cons_zero, List.set_cons_succ]; try simp only [List.getElem_toArray, List.getElem_cons_succ, List.getElem_cons_zero])
      (refine wpAnyH_take (i := 4) (oi := ⟨_, _, _, _, _, _⟩) (v := ?tv4) rfl (by kernel_rfl) (by kernel_rfl) (by kernel_rfl) (fun _ _ _ h => h) (Or.inl ⟨by kernel_rfl, ?hy4⟩) (by assumption) ?rs4; (case hy4 => (intro wx hSw; (try dsimp only at hSw); go_simp; try with_reducible rfl)); try simp only [Act.put, List.setIfInBounds_toArray, List.set_cons_zero, List.set_cons_succ]; try simp only [List.getElem_toArray, List.getElem_cons_succ, List.getElem_cons_zero])
      refine wpAnyH_ready (rs := [1, 5]) (by kernel_rfl) (by simp) ?_
      refine AllReadyH.cons rfl (fun K hK => ?_) (AllReadyH.cons rfl (fun K hK => ?_) AllReadyH.nil)
      · go_simp
        (go_wp2_with fail; refine hK.out _ _ (trivial) (fun hH => ?_); clear hK K hH; try simp only [Act.put, List.setIfInBounds_toArray, List.set_cons_zero, List.set_cons_succ]; try simp only [List.getElem_toArray, List.getElem_cons_succ, List.getElem_cons_zero])
        (refine wpAnyH_ready (rs := [5]) (by kernel_rfl) (by simp) ?_; refine AllReadyH.cons rfl (fun K hK => ?_) AllReadyH.nil; go_simp)
        refine hih.out.mono ?_
        rintro e w9 ⟨⟨F, vs, vk, x, j9, rfl, hkF, ⟨As, ms, cs, rfl⟩, ⟨Ak, mk, ck, rfl⟩, hj9, r9, hcase⟩, y9⟩
        have cf9 : w9.cell? ⟨fb, 4, none⟩ = some (.slice A C.length c) := (Kd.bf.mod y9 hfg).cell 4
        have x10 : Ext w9 (w9.alloc (.cells #[.int .i64 F.kind, sv F.typ, sv F.val, .slice As ms cs, .slice Ak mk ck] 25)) := (Mod.refl _ w9).alloc _
        have cf10 := ext_cell x10 cf9
        have hown9 : OwnR fic 5 w9 25 (.slice A C.length c) C := Kd.ow.mod y9 (fun b hb h => by have := Kd.fr b hb; have : b = g := h; omega)
        (go_wp2_with fail; refine hK.out _ _ (trivial) (fun hH => ?_); clear hK K hH; try simp only [Act.put, List.setIfInBounds_toArray, List.set_cons_zero, List.set_cons_succ]; try simp only [List.getElem_toArray, List.getElem_cons_succ, List.getElem_cons_zero])
        (refine wpAnyH_ready (rs := [6]) (by kernel_rfl) (by simp) ?_; refine AllReadyH.cons rfl (fun K hK => ?_) AllReadyH.nil; go_simp)
        (go_wp2_with fail; refine hK.out _ _ (trivial) (fun hH => ?_); clear hK K hH; try simp only [Act.put, List.setIfInBounds_toArray, List.set_cons_zero, List.set_cons_succ]; try simp only [List.getElem_toArray, List.getElem_cons_succ, List.getElem_cons_zero])
        refine wpAnyH_ready (rs := [7]) (by kernel_rfl) (by simp) ?_
        refine AllReadyH.cons rfl (fun K hK => ?_) AllReadyH.nil
        refine step_appR (d := 52) tyF fic_len hown9 (x := (F, .slice As ms cs, .slice Ak mk ck)) rfl fic_ok hn1.out rfl rfl (.tmp 46) (.tmp 51) rfl rfl rfl ?_
        intro v2 w11 g1 g2 g3
        have x9 : Ext w9 w9 := Mod.refl _ w9
        have bf11 := (((Kd.bf.mod y9 hfg).mod x9 (fun h => h)).mod g2 (fun h => by have := Kd.fr _ h; have := hfp.out; have := hp.out; omega))
        have cf11 : w11.cell? ⟨fb, 4, none⟩ = some (.slice A C.length c) := bf11.cell 4
        have zf11 : w11.frozen? ⟨fb, 4, none⟩ = false := Blk.frozen bf11 4
        have hK4 : x = 0 → filP n (s.drop j) = .ok (F, s.drop j9) → FilS (fun b => wd.heap.size ≤ b) n w9 F (.slice As ms cs) (.slice Ak mk ck) → KAt3 n w (w11.setCell ⟨fb, 4, none⟩ v2) g p fb kd s v2 (C ++ [((F, Value.slice As ms cs, Value.slice Ak mk ck) : FiC)]) j9 := fun e hR hF => Kd.next hp.out hfp.out hgB y9 (e ▸ r9) hF (hgoL F j9 hR) hj9 x9 g1 g2 g3
        have hE2 : x ≠ 0 → EAt w (w11.setCell ⟨fb, 4, none⟩ v2) g p fb kd s v2 j9 x := fun hx0 => Kd.bad hp.out hfp.out hgB y9 r9 hj9 hx0 x9 g2
        obtain ⟨D, hD⟩ : ∃ D, D = C ++ [((F, Value.slice As ms cs, Value.slice Ak mk ck) : FiC)] := ⟨_, rfl⟩
        rw [← hD] at g1 hK4
        replace hD := Lib.hid hD
        replace hK4 := Lib.hid hK4
        replace hE2 := Lib.hid hE2
        obtain ⟨A2, c2, rfl⟩ := g1.shape
        refine hK.out _ _ trivial (fun hH => ?_)
        clear hK K hH
        (try simp only [Act.put, List.setIfInBounds_toArray]; try simp only [List.getElem_toArray, List.getElem_cons_succ, List.getElem_cons_zero])
        (refine wpAnyH_take (i := 8) (oi := ⟨_, _, _, _, _, _⟩) (v := ?tv5) rfl (by kernel_rfl) (by kernel_rfl) (by kernel_rfl) (fun _ _ _ h => h) (Or.inl ⟨by kernel_rfl, ?hy5⟩) (by assumption) ?rs5; (case hy5 => (intro wx hSw; (try dsimp only at hSw); go_simp; try with_reducible rfl)); try simp only [Act.put, List.setIfInBounds_toArray, List.set_cons_zero, List.set_cons_succ]; try simp only [List.getElem_toArray, List.getElem_cons_succ, List.getElem_cons_zero])
        (refine wpAnyH_ready (rs := [9]) (by kernel_rfl) (by simp) ?_; refine AllReadyH.cons rfl (fun K hK => ?_) AllReadyH.nil; go_simp)
        (go_wp2_with fail; refine hK.out _ _ (trivial) (fun hH => ?_); clear hK K hH; try simp only [Act.put, List.setIfInBounds_toArray, List.set_cons_zero, List.set_cons_succ]; try simp only [List.getElem_toArray, List.getElem_cons_succ, List.getElem_cons_zero])
        refine wpAnyH_done (by kernel_rfl) ?_ _
        rcases hcase with ⟨hR, hx0⟩ | ⟨hR, rfl, hF⟩
        · have E2 := hE2.out hx0
          have hM2 := Lib.hid (hMs.out.1 x hR)
          have hme := E2.rd.er
          clear hMs hR bf11 cf11 zf11 cf10 cf9 hown9 g1 g2 g3 x10 x9
          go_wp2_with fail
          refine ⟨⟨_, j9, x, .inr ⟨E2, ⟨_, _, _, rfl⟩, hM2⟩⟩, ?_⟩
          rw [hms0.out, measR, hme, if_neg hx0]; omega
        · have K4 := hK4.out rfl hR hF
          have hM2 : M = manyP (filP n) m true (D.map (·.1)) (s.drop j9) := by rw [hMs.out.2 _ _ hR, hD.out, List.map_append]; rfl
          have hjj := hgoL F j9 hR
          replace hM2 := Lib.hid hM2
          have hme := K4.rd.er
          have hma := K4.rd.at_
          clear hMs hR bf11 cf11 zf11 cf10 cf9 hown9 g1 g2 g3 x10 x9
          go_wp2_with fail
          refine ⟨⟨_, j9, 0, .inl ⟨rfl, m, D, K4, Lib.hid ⟨hM2.out, by omega⟩⟩⟩, ?_⟩
          rw [hms0.out, measR, hme, hma, if_pos rfl]; omega
      · go_simp
        refine hih.out.mono ?_
        rintro e w9 ⟨⟨F, vs, vk, x, j9, rfl, hkF, ⟨As, ms, cs, rfl⟩, ⟨Ak, mk, ck, rfl⟩, hj9, r9, hcase⟩, y9⟩
        have cf9 : w9.cell? ⟨fb, 4, none⟩ = some (.slice A C.length c) := (Kd.bf.mod y9 hfg).cell 4
        have x10 : Ext w9 (w9.alloc (.cells #[.int .i64 F.kind, sv F.typ, sv F.val, .slice As ms cs, .slice Ak mk ck] 25)) := (Mod.refl _ w9).alloc _
        have cf10 := ext_cell x10 cf9
        have hown9 : OwnR fic 5 w9 25 (.slice A C.length c) C := Kd.ow.mod y9 (fun b hb h => by have := Kd.fr b hb; have : b = g := h; omega)
        (go_wp2_with fail; refine hK.out _ _ (trivial) (fun hH => ?_); clear hK K hH; try simp only [Act.put, List.setIfInBounds_toArray, List.set_cons_zero, List.set_cons_succ]; try simp only [List.getElem_toArray, List.getElem_cons_succ, List.getElem_cons_zero])
        refine wpAnyH_ready (rs := [1, 6]) (by kernel_rfl) (by simp) ?_
        refine AllReadyH.cons rfl (fun K hK => ?_) (AllReadyH.cons rfl (fun K hK => ?_) AllReadyH.nil)
        · go_simp
          (go_wp2_with fail; refine hK.out _ _ (trivial) (fun hH => ?_); clear hK K hH; try simp only [Act.put, List.setIfInBounds_toArray, List.set_cons_zero, List.set_cons_succ]; try simp only [List.getElem_toArray, List.getElem_cons_succ, List.getElem_cons_zero])
          (refine wpAnyH_ready (rs := [6]) (by kernel_rfl) (by simp) ?_; refine AllReadyH.cons rfl (fun K hK => ?_) AllReadyH.nil; go_simp)
          (go_wp2_with fail; refine hK.out _ _ (trivial) (fun hH => ?_); clear hK K hH; try simp only [Act.put, List.setIfInBounds_toArray, List.set_cons_zero, List.set_cons_succ]; try simp only [List.getElem_toArray, List.getElem_cons_succ, List.getElem_cons_zero])
          refine wpAnyH_ready (rs := [7]) (by kernel_rfl) (by simp) ?_
          refine AllReadyH.cons rfl (fun K hK => ?_) AllReadyH.nil
          refine step_appR (d := 52) tyF fic_len hown9 (x := (F, .slice As ms cs, .slice Ak mk ck)) rfl fic_ok hn1.out rfl rfl (.tmp 46) (.tmp 51) rfl rfl rfl ?_
          intro v2 w11 g1 g2 g3
          have x9 : Ext w9 w9 := Mod.refl _ w9
          have bf11 := (((Kd.bf.mod y9 hfg).mod x9 (fun h => h)).mod g2 (fun h => by have := Kd.fr _ h; have := hfp.out; have := hp.out; omega))
          have cf11 : w11.cell? ⟨fb, 4, none⟩ = some (.slice A C.length c) := bf11.cell 4
          have zf11 : w11.frozen? ⟨fb, 4, none⟩ = false := Blk.frozen bf11 4
          have hK4 : x = 0 → filP n (s.drop j) = .ok (F, s.drop j9) → FilS (fun b => wd.heap.size ≤ b) n w9 F (.slice As ms cs) (.slice Ak mk ck) → KAt3 n w (w11.setCell ⟨fb, 4, none⟩ v2) g p fb kd s v2 (C ++ [((F, Value.slice As ms cs, Value.slice Ak mk ck) : FiC)]) j9 := fun e hR hF => Kd.next hp.out hfp.out hgB y9 (e ▸ r9) hF (hgoL F j9 hR) hj9 x9 g1 g2 g3
          have hE2 : x ≠ 0 → EAt w (w11.setCell ⟨fb, 4, none⟩ v2) g p fb kd s v2 j9 x := fun hx0 => Kd.bad hp.out hfp.out hgB y9 r9 hj9 hx0 x9 g2
          obtain ⟨D, hD⟩ : ∃ D, D = C ++ [((F, Value.slice As ms cs, Value.slice Ak mk ck) : FiC)] := ⟨_, rfl⟩
          rw [← hD] at g1 hK4
          replace hD := Lib.hid hD
          replace hK4 := Lib.hid hK4
          replace hE2 := Lib.hid hE2
          obtain ⟨A2, c2, rfl⟩ := g1.shape
          refine hK.out _ _ trivial (fun hH => ?_)
          clear hK K hH
          (try simp only [Act.put, List.setIfInBounds_toArray]; try simp only [List.getElem_toArray, List.getElem_cons_succ, List.getElem_cons_zero])
          (refine wpAnyH_take (i := 8) (oi := ⟨_, _, _, _, _, _⟩) (v := ?tv6) rfl (by kernel_rfl) (by kernel_rfl) (by kernel_rfl) (fun _ _ _ h => h) (Or.inl ⟨by kernel_rfl, ?hy6⟩) (by assumption) ?rs6; (case hy6 => (intro wx hSw; (try dsimp only at hSw); go_simp; try with_reducible rfl)); try simp only [Act.put, List.setIfInBounds_toArray, List.set_cons_zero, List.set_cons_succ]; try simp only [List.getElem_toArray, List.getElem_cons_succ, List.getElem_cons_zero])
          (refine wpAnyH_ready (rs := [9]) (by kernel_rfl) (by simp) ?_; refine AllReadyH.cons rfl (fun K hK => ?_) AllReadyH.nil; go_simp)
          (go_wp2_with fail; refine hK.out _ _ (trivial) (fun hH => ?_); clear hK K hH; try simp only [Act.put, List.setIfInBounds_toArray, List.set_cons_zero, List.set_cons_succ]; try simp only [List.getElem_toArray, List.getElem_cons_succ, List.getElem_cons_zero])
          refine wpAnyH_done (by kernel_rfl) ?_ _
          rcases hcase with ⟨hR, hx0⟩ | ⟨hR, rfl, hF⟩
          · have E2 := hE2.out hx0
            have hM2 := Lib.hid (hMs.out.1 x hR)
            have hme := E2.rd.er
            clear hMs hR bf11 cf11 zf11 cf10 cf9 hown9 g1 g2 g3 x10 x9
            go_wp2_with fail
            refine ⟨⟨_, j9, x, .inr ⟨E2, ⟨_, _, _, rfl⟩, hM2⟩⟩, ?_⟩
            rw [hms0.out, measR, hme, if_neg hx0]; omega
          · have K4 := hK4.out rfl hR hF
            have hM2 : M = manyP (filP n) m true (D.map (·.1)) (s.drop j9) := by rw [hMs.out.2 _ _ hR, hD.out, List.map_append]; rfl
            have hjj := hgoL F j9 hR
            replace hM2 := Lib.hid hM2
            have hme := K4.rd.er
            have hma := K4.rd.at_
            clear hMs hR bf11 cf11 zf11 cf10 cf9 hown9 g1 g2 g3 x10 x9
            go_wp2_with fail
            refine ⟨⟨_, j9, 0, .inl ⟨rfl, m, D, K4, Lib.hid ⟨hM2.out, by omega⟩⟩⟩, ?_⟩
            rw [hms0.out, measR, hme, hma, if_pos rfl]; omega
        · go_simp
          (go_wp2_with fail; refine hK.out _ _ (trivial) (fun hH => ?_); clear hK K hH; try simp only [Act.put, List.setIfInBounds_toArray, List.set_cons_zero, List.set_cons_succ]; try simp only [List.getElem_toArray, List.getElem_cons_succ, List.getElem_cons_zero])
          (refine wpAnyH_ready (rs := [1]) (by kernel_rfl) (by simp) ?_; refine AllReadyH.cons rfl (fun K hK => ?_) AllReadyH.nil; go_simp)
          (go_wp2_with fail; refine hK.out _ _ (trivial) (fun hH => ?_); clear hK K hH; try simp only [Act.put, List.setIfInBounds_toArray, List.set_cons_zero, List.set_cons_succ]; try simp only [List.getElem_toArray, List.getElem_cons_succ, List.getElem_cons_zero])
          refine wpAnyH_ready (rs := [7]) (by kernel_rfl) (by simp) ?_
          refine AllReadyH.cons rfl (fun K hK => ?_) AllReadyH.nil
          refine step_appR (d := 52) tyF fic_len hown9 (x := (F, .slice As ms cs, .slice Ak mk ck)) rfl fic_ok hn1.out rfl rfl (.tmp 46) (.tmp 51) rfl rfl rfl ?_
          intro v2 w11 g1 g2 g3
          have x9 : Ext w9 w9 := Mod.refl _ w9
          have bf11 := (((Kd.bf.mod y9 hfg).mod x9 (fun h => h)).mod g2 (fun h => by have := Kd.fr _ h; have := hfp.out; have := hp.out; omega))
          have cf11 : w11.cell? ⟨fb, 4, none⟩ = some (.slice A C.length c) := bf11.cell 4
          have zf11 : w11.frozen? ⟨fb, 4, none⟩ = false := Blk.frozen bf11 4
          have hK4 : x = 0 → filP n (s.drop j) = .ok (F, s.drop j9) → FilS (fun b => wd.heap.size ≤ b) n w9 F (.slice As ms cs) (.slice Ak mk ck) → KAt3 n w (w11.setCell ⟨fb, 4, none⟩ v2) g p fb kd s v2 (C ++ [((F, Value.slice As ms cs, Value.slice Ak mk ck) : FiC)]) j9 := fun e hR hF => Kd.next hp.out hfp.out hgB y9 (e ▸ r9) hF (hgoL F j9 hR) hj9 x9 g1 g2 g3
          have hE2 : x ≠ 0 → EAt w (w11.setCell ⟨fb, 4, none⟩ v2) g p fb kd s v2 j9 x := fun hx0 => Kd.bad hp.out hfp.out hgB y9 r9 hj9 hx0 x9 g2
          obtain ⟨D, hD⟩ : ∃ D, D = C ++ [((F, Value.slice As ms cs, Value.slice Ak mk ck) : FiC)] := ⟨_, rfl⟩
          rw [← hD] at g1 hK4
          replace hD := Lib.hid hD
          replace hK4 := Lib.hid hK4
          replace hE2 := Lib.hid hE2
          obtain ⟨A2, c2, rfl⟩ := g1.shape
          refine hK.out _ _ trivial (fun hH => ?_)
          clear hK K hH
          (try simp only [Act.put, List.setIfInBounds_toArray]; try simp only [List.getElem_toArray, List.getElem_cons_succ, List.getElem_cons_zero])
          (refine wpAnyH_take (i := 8) (oi := ⟨_, _, _, _, _, _⟩) (v := ?tv7) rfl (by kernel_rfl) (by kernel_rfl) (by kernel_rfl) (fun _ _ _ h => h) (Or.inl ⟨by kernel_rfl, ?hy7⟩) (by assumption) ?rs7; (case hy7 => (intro wx hSw; (try dsimp only at hSw); go_simp; try with_reducible rfl)); try simp only [Act.put, List.setIfInBounds_toArray, List.set_cons_zero, List.set_cons_succ]; try simp only [List.getElem_toArray, List.getElem_cons_succ, List.getElem_cons_zero])
          (refine wpAnyH_ready (rs := [9]) (by kernel_rfl) (by simp) ?_; refine AllReadyH.cons rfl (fun K hK => ?_) AllReadyH.nil; go_simp)
          (go_wp2_with fail; refine hK.out _ _ (trivial) (fun hH => ?_); clear hK K hH; try simp only [Act.put, List.setIfInBounds_toArray, List.set_cons_zero, List.set_cons_succ]; try simp only [List.getElem_toArray, List.getElem_cons_succ, List.getElem_cons_zero])
          refine wpAnyH_done (by kernel_rfl) ?_ _
          rcases hcase with ⟨hR, hx0⟩ | ⟨hR, rfl, hF⟩
          · have E2 := hE2.out hx0
            have hM2 := Lib.hid (hMs.out.1 x hR)
            have hme := E2.rd.er
            clear hMs hR bf11 cf11 zf11 cf10 cf9 hown9 g1 g2 g3 x10 x9
            go_wp2_with fail
            refine ⟨⟨_, j9, x, .inr ⟨E2, ⟨_, _, _, rfl⟩, hM2⟩⟩, ?_⟩
            rw [hms0.out, measR, hme, if_neg hx0]; omega
          · have K4 := hK4.out rfl hR hF
            have hM2 : M = manyP (filP n) m true (D.map (·.1)) (s.drop j9) := by rw [hMs.out.2 _ _ hR, hD.out, List.map_append]; rfl
            have hjj := hgoL F j9 hR
            replace hM2 := Lib.hid hM2
            have hme := K4.rd.er
            have hma := K4.rd.at_
            clear hMs hR bf11 cf11 zf11 cf10 cf9 hown9 g1 g2 g3 x10 x9
            go_wp2_with fail
            refine ⟨⟨_, j9, 0, .inl ⟨rfl, m, D, K4, Lib.hid ⟨hM2.out, by omega⟩⟩⟩, ?_⟩
            rw [hms0.out, measR, hme, hma, if_pos rfl]; omega
    have hl0 : ((C.length : Int) == 0) = false := beq_eq_false_iff_ne.2 (fun h => hC (List.eq_nil_of_length_eq_zero (by omega)))
    have hCm : C.map (·.1) ≠ [] := fun h => hC (List.map_eq_nil_iff.1 h)
    clear hC
    by_cases hlt : j < s.length
    rotate_left
    · have hb1 : decide ((j : Int) < (s.length : Int)) = false := dfalse (by omega)
      have hMok : M = .ok (C.map (·.1), s.drop j) := by
        rw [hm.out.1, manyP, if_neg]
        rintro (h | ⟨-, h⟩)
        · exact hCm h
        · rw [drop_end hlt] at h; cases h
      go_wp2_with fail
      go_quiet (fail)
      obtain ⟨w2, hw2⟩ : ∃ y7 : World, y7 = wr.drewN nq := ⟨_, rfl⟩
      rw [← hw2]
      have x2 : Ext wr w2 := by rw [hw2]; exact (Mod.refl _ wr).drewN nq
      have K2 := K.ext x2
      clear hw2 K c0 c1 c2 cf4 x2
      have hU2 := Lib.hid (hUM.out _ _ hMok)
      have hFB : FB (.mk kd [] [] [] (C.map (·.1))) := ⟨hkr, by simp [Fi.typ], by simp [Fi.val], by simp [Fi.subs], by simp [Fi.subs], by show (C.map (·.1)).length * 88 ≤ _; rw [List.length_map]; omega⟩
      have hFS : FilS (fun b => w.heap.size + 2 ≤ b) (n + 1) w2 (.mk kd [] [] [] (C.map (·.1))) (.slice none 0 0) (.slice A C.length c) := ⟨hFB, Sl.nil _ _, C, K2.ow.rc.mono (fun b _ hb => K2.fr b hb), rfl, fun x hx => (K2.kids x hx).mono (fun b _ h => h.1)⟩
      obtain ⟨⟨f0, f1, f2, f3, f4⟩, e0, e1, e2, e3, e4⟩ := K2.bp.five
      obtain ⟨-, q0, q1, q2, q3, q4⟩ := K2.bf.five
      have hBp := K2.bp
      have hRd := K2.rd
      have hMo := K2.mod
      clear K2 hm hMok hUM hUE
      go_wp2_with fail
      refine bodyPost_ret (results_cell_row Try.results34 _ _ _ _ _ _ _ rfl (hBp.set5 _ _ _ _ _) Try.underlying25 rfl (by kernel_rfl)) rfl ?_
      exact ⟨⟨.mk kd [] [] [] (C.map (·.1)), _, _, 0, j, rfl, hkr, ⟨_, _, _, rfl⟩, ⟨_, _, _, rfl⟩, hjl, Blk.far5 hRd hgp _ _ _ _ _, .inr ⟨hU2.out, rfl, (hFS.mod (mod5_at w2 p _ _ _ _ _) (fun b hb h1 h2 => by have := hp.out; have : b = p := h2; omega)).mono (fun b _ h => by omega)⟩⟩, hmodp _ _ _ _ _ hMo⟩
    have hb1 : decide ((j : Int) < (s.length : Int)) = true := dtrue (by omega)
    obtain ⟨d, hdr, hg⟩ := get_at hlt
    have hi0 : (0 : Int) ≤ (j : Int) := by omega
    have hi1 : (j : Int) < (s.length : Int) := by omega
    have hd8 := d.toNat_lt
    by_cases h40 : d = 40
    rotate_left
    · have e40 : ((d.toNat : Int) == 40) = false := byte_ne d (n := 40) (by omega) h40
      have hMok : M = .ok (C.map (·.1), s.drop j) := by
        rw [hm.out.1, manyP, if_neg]
        rintro (h | ⟨-, h⟩)
        · exact hCm h
        · rw [hdr] at h; injection h with h; exact h40 h
      clear hdr h40 hCm
      go_wp2_with fail
      go_quiet (fail)
      obtain ⟨w2, hw2⟩ : ∃ y7 : World, y7 = wr.drewN nq := ⟨_, rfl⟩
      rw [← hw2]
      have x2 : Ext wr w2 := by rw [hw2]; exact (Mod.refl _ wr).drewN nq
      have K2 := K.ext x2
      clear hw2 K c0 c1 c2 cf4 x2
      have hU2 := Lib.hid (hUM.out _ _ hMok)
      have hFB : FB (.mk kd [] [] [] (C.map (·.1))) := ⟨hkr, by simp [Fi.typ], by simp [Fi.val], by simp [Fi.subs], by simp [Fi.subs], by show (C.map (·.1)).length * 88 ≤ _; rw [List.length_map]; omega⟩
      have hFS : FilS (fun b => w.heap.size + 2 ≤ b) (n + 1) w2 (.mk kd [] [] [] (C.map (·.1))) (.slice none 0 0) (.slice A C.length c) := ⟨hFB, Sl.nil _ _, C, K2.ow.rc.mono (fun b _ hb => K2.fr b hb), rfl, fun x hx => (K2.kids x hx).mono (fun b _ h => h.1)⟩
      obtain ⟨⟨f0, f1, f2, f3, f4⟩, e0, e1, e2, e3, e4⟩ := K2.bp.five
      obtain ⟨-, q0, q1, q2, q3, q4⟩ := K2.bf.five
      have hBp := K2.bp
      have hRd := K2.rd
      have hMo := K2.mod
      clear K2 hm hMok hUM hUE
      go_wp2_with fail
      refine bodyPost_ret (results_cell_row Try.results34 _ _ _ _ _ _ _ rfl (hBp.set5 _ _ _ _ _) Try.underlying25 rfl (by kernel_rfl)) rfl ?_
      exact ⟨⟨.mk kd [] [] [] (C.map (·.1)), _, _, 0, j, rfl, hkr, ⟨_, _, _, rfl⟩, ⟨_, _, _, rfl⟩, hjl, Blk.far5 hRd hgp _ _ _ _ _, .inr ⟨hU2.out, rfl, (hFS.mod (mod5_at w2 p _ _ _ _ _) (fun b hb h1 h2 => by have := hp.out; have : b = p := h2; omega)).mono (fun b _ h => by omega)⟩⟩, hmodp _ _ _ _ _ hMo⟩
    have e40 : ((d.toNat : Int) == 40) = true := byte_eq d (n := 40) (by omega) h40
    have hgo : C.map (·.1) = [] ∨ (true = true ∧ (s.drop j).head? = some 40) := .inr ⟨rfl, by rw [hdr, h40]; rfl⟩
    replace hgo := Lib.hid hgo
    clear hdr h40 hCm
    go_wp2_with fail
    go_quiet (fail)
    obtain ⟨w2, hw2⟩ : ∃ y7 : World, y7 = wr.drewN nq := ⟨_, rfl⟩
    rw [← hw2]
    have x2 : Ext wr w2 := by rw [hw2]; exact (Mod.refl _ wr).drewN nq
    have K2 := K.ext x2
    clear hw2 K c0 c1 c2 cf4 x2
    have hMs : (∀ x, filP n (s.drop j) = .error x → M = .error x) ∧ ∀ F R', filP n (s.drop j) = .ok (F, R') → M = manyP (filP n) m true (C.map (·.1) ++ [F]) R' := by
      have h := hm.out.1
      rw [manyP, if_pos (hgo.out.imp id (fun h => ⟨rfl, h.2⟩))] at h
      exact ⟨fun x e => by rw [e] at h; exact h, fun F R' e => by rw [e] at h; exact h⟩
    have hms := hm.out.2
    have hgoL : ∀ F j9, filP n (s.drop j) = .ok (F, s.drop j9) → j < j9 := fun F j9 h => by
      have := filP_goes n _ _ _ h
      rw [List.length_drop, List.length_drop] at this
      omega
    replace hMs := Lib.hid hMs
    clear hm hgo
    obtain ⟨wd, hwd⟩ : ∃ y7 : World, y7 = w2.drew := ⟨_, rfl⟩
    have Kd := K2.ext (show Ext w2 wd by rw [hwd]; exact (Mod.refl _ w2).drew)
    have hih := ih Kd.rd hjl hl
    replace hih := Lib.hid hih
    have cfd : wd.cell? ⟨fb, 4, none⟩ = some (.slice A C.length c) := Kd.bf.cell 4
    have hdp : (16 - (n : Int)) + 1 = 17 - (n : Int) := by omega
    have hwr : IntKind.i64.wrap (17 - (n : Int)) = 17 - (n : Int) := wrap_small _ (by omega) (by omega)
    have hn1 := Lib.hid (show (C.length + 1) * 88 ≤ 140737488355328 by omega)
    clear K2
    go_upto_region 3 with fail
    refine wp_region_held_drew (S := fun _ => True) (by kernel_rfl) trivial (fun hH => ?_)
    clear hH
    have hT : (fun _ : World => True) w2.drew := trivial
    rw [← hwd] at hT ⊢
    clear hwd
    (refine wpAnyH_take (i := 0) (oi := ⟨_, _, _, _, _, _⟩) (v := ?tv8) rfl (by kernel_rfl) (by kernel_rfl) (by kernel_rfl) (fun _ _ _ h => h) (Or.inl ⟨by kernel_rfl, ?hy8⟩) (by assumption) ?rs8; (case hy8 => (intro wx hSw; (try dsimp only at hSw); go_simp; try with_reducible rfl)); try simp only [Act.put, List.setIfInBounds_toArray, List.set_cons_zero, List.set_cons_succ]; try simp only [List.getElem_toArray, List.getElem_cons_succ, List.getElem_cons_zero])
    (refine wpAnyH_take (i := 2) (oi := ⟨_, _, _, _, _, _⟩) (v := ?tv9) rfl (by kernel_rfl) (by kernel_rfl) (by kernel_rfl) (fun _ _ _ h => h) (Or.inl ⟨by kernel_rfl, ?hy9⟩) (by assumption) ?rs9; (case hy9 => (intro wx hSw; (try dsimp only at hSw); go_simp; try with_reducible rfl)); try simp only [Act.put, List.setIfInBounds_toArray, List.set_cons_zero, List.set_cons_succ]; try simp only [List.getElem_toArray, List.getElem_cons_succ, List.getElem_cons_zero])
    (refine wpAnyH_take (i := 3) (oi := ⟨_, _, _, _, _, _⟩) (v := ?tv10) rfl (by kernel_rfl) (by kernel_rfl) (by kernel_rfl) (fun _ _ _ h => h) (Or.inl ⟨by kernel_rfl, ?hy10⟩) (by assumption) ?rs10; (case hy10 => (intro wx hSw; (try dsimp only at hSw); go_simp; try with_reducible rfl)); try simp only [Act.put, List.setIfInBounds_toArray, List.set_cons_zero, List.set_cons_succ]; try simp only [List.getElem_toArray, List.getElem_cons_succ, List.getElem_cons_zero])
    (refine wpAnyH_take (i := 4) (oi := ⟨_, _, _, _, _, _⟩) (v := ?tv11) rfl (by kernel_rfl) (by kernel_rfl) (by kernel_rfl) (fun _ _ _ h => h) (Or.inl ⟨by kernel_rfl, ?hy11⟩) (by assumption) ?rs11; (case hy11 => (intro wx hSw; (try dsimp only at hSw); go_simp; try with_reducible rfl)); try simp only [Act.put, List.setIfInBounds_toArray, List.set_cons_zero, List.set_cons_succ]; try simp only [List.getElem_toArray, List.getElem_cons_succ, List.getElem_cons_zero])
    refine wpAnyH_ready (rs := [1, 5]) (by kernel_rfl) (by simp) ?_
    refine AllReadyH.cons rfl (fun K hK => ?_) (AllReadyH.cons rfl (fun K hK => ?_) AllReadyH.nil)
    · go_simp
      (go_wp2_with fail; refine hK.out _ _ (trivial) (fun hH => ?_); clear hK K hH; try simp only [Act.put, List.setIfInBounds_toArray, List.set_cons_zero, List.set_cons_succ]; try simp only [List.getElem_toArray, List.getElem_cons_succ, List.getElem_cons_zero])
      (refine wpAnyH_ready (rs := [5]) (by kernel_rfl) (by simp) ?_; refine AllReadyH.cons rfl (fun K hK => ?_) AllReadyH.nil; go_simp)
      refine hih.out.mono ?_
      rintro e w9 ⟨⟨F, vs, vk, x, j9, rfl, hkF, ⟨As, ms, cs, rfl⟩, ⟨Ak, mk, ck, rfl⟩, hj9, r9, hcase⟩, y9⟩
      have cf9 : w9.cell? ⟨fb, 4, none⟩ = some (.slice A C.length c) := (Kd.bf.mod y9 hfg).cell 4
      have x10 : Ext w9 (w9.alloc (.cells #[.int .i64 F.kind, sv F.typ, sv F.val, .slice As ms cs, .slice Ak mk ck] 25)) := (Mod.refl _ w9).alloc _
      have cf10 := ext_cell x10 cf9
      have hown9 : OwnR fic 5 w9 25 (.slice A C.length c) C := Kd.ow.mod y9 (fun b hb h => by have := Kd.fr b hb; have : b = g := h; omega)
      (go_wp2_with fail; refine hK.out _ _ (trivial) (fun hH => ?_); clear hK K hH; try simp only [Act.put, List.setIfInBounds_toArray, List.set_cons_zero, List.set_cons_succ]; try simp only [List.getElem_toArray, List.getElem_cons_succ, List.getElem_cons_zero])
      (refine wpAnyH_ready (rs := [6]) (by kernel_rfl) (by simp) ?_; refine AllReadyH.cons rfl (fun K hK => ?_) AllReadyH.nil; go_simp)
      (go_wp2_with fail; refine hK.out _ _ (trivial) (fun hH => ?_); clear hK K hH; try simp only [Act.put, List.setIfInBounds_toArray, List.set_cons_zero, List.set_cons_succ]; try simp only [List.getElem_toArray, List.getElem_cons_succ, List.getElem_cons_zero])
      refine wpAnyH_ready (rs := [7]) (by kernel_rfl) (by simp) ?_
      refine AllReadyH.cons rfl (fun K hK => ?_) AllReadyH.nil
      refine step_appR (d := 52) tyF fic_len hown9 (x := (F, .slice As ms cs, .slice Ak mk ck)) rfl fic_ok hn1.out rfl rfl (.tmp 46) (.tmp 51) rfl rfl rfl ?_
      intro v2 w11 g1 g2 g3
      have x9 : Ext w9 w9 := Mod.refl _ w9
      have bf11 := (((Kd.bf.mod y9 hfg).mod x9 (fun h => h)).mod g2 (fun h => by have := Kd.fr _ h; have := hfp.out; have := hp.out; omega))
      have cf11 : w11.cell? ⟨fb, 4, none⟩ = some (.slice A C.length c) := bf11.cell 4
      have zf11 : w11.frozen? ⟨fb, 4, none⟩ = false := Blk.frozen bf11 4
      have hK4 : x = 0 → filP n (s.drop j) = .ok (F, s.drop j9) → FilS (fun b => wd.heap.size ≤ b) n w9 F (.slice As ms cs) (.slice Ak mk ck) → KAt3 n w (w11.setCell ⟨fb, 4, none⟩ v2) g p fb kd s v2 (C ++ [((F, Value.slice As ms cs, Value.slice Ak mk ck) : FiC)]) j9 := fun e hR hF => Kd.next hp.out hfp.out hgB y9 (e ▸ r9) hF (hgoL F j9 hR) hj9 x9 g1 g2 g3
      have hE2 : x ≠ 0 → EAt w (w11.setCell ⟨fb, 4, none⟩ v2) g p fb kd s v2 j9 x := fun hx0 => Kd.bad hp.out hfp.out hgB y9 r9 hj9 hx0 x9 g2
      obtain ⟨D, hD⟩ : ∃ D, D = C ++ [((F, Value.slice As ms cs, Value.slice Ak mk ck) : FiC)] := ⟨_, rfl⟩
      rw [← hD] at g1 hK4
      replace hD := Lib.hid hD
      replace hK4 := Lib.hid hK4
      replace hE2 := Lib.hid hE2
      obtain ⟨A2, c2, rfl⟩ := g1.shape
      refine hK.out _ _ trivial (fun hH => ?_)
      clear hK K hH
      (try simp only [Act.put, List.setIfInBounds_toArray]; try simp only [List.getElem_toArray, List.getElem_cons_succ, List.getElem_cons_zero])
      (refine wpAnyH_take (i := 8) (oi := ⟨_, _, _, _, _, _⟩) (v := ?tv12) rfl (by kernel_rfl) (by kernel_rfl) (by kernel_rfl) (fun _ _ _ h => h) (Or.inl ⟨by kernel_rfl, ?hy12⟩) (by assumption) ?rs12; (case hy12 => (intro wx hSw; (try dsimp only at hSw); go_simp; try with_reducible rfl)); try simp only [Act.put, List.setIfInBounds_toArray, List.set_cons_zero, List.set_cons_succ]; try simp only [List.getElem_toArray, List.getElem_cons_succ, List.getElem_cons_zero])
      (refine wpAnyH_ready (rs := [9]) (by kernel_rfl) (by simp) ?_; refine AllReadyH.cons rfl (fun K hK => ?_) AllReadyH.nil; go_simp)
      (go_wp2_with fail; refine hK.out _ _ (trivial) (fun hH => ?_); clear hK K hH; try simp only [Act.put, List.setIfInBounds_toArray, List.set_cons_zero, List.set_cons_succ]; try simp only [List.getElem_toArray, List.getElem_cons_succ, List.getElem_cons_zero])
      refine wpAnyH_done (by kernel_rfl) ?_ _
      rcases hcase with ⟨hR, hx0⟩ | ⟨hR, rfl, hF⟩
      · have E2 := hE2.out hx0
        have hM2 := Lib.hid (hMs.out.1 x hR)
        have hme := E2.rd.er
        clear hMs hR bf11 cf11 zf11 cf10 cf9 hown9 g1 g2 g3 x10 x9
        go_wp2_with fail
        refine ⟨⟨_, j9, x, .inr ⟨E2, ⟨_, _, _, rfl⟩, hM2⟩⟩, ?_⟩
        rw [hms0.out, measR, hme, if_neg hx0]; omega
      · have K4 := hK4.out rfl hR hF
        have hM2 : M = manyP (filP n) m true (D.map (·.1)) (s.drop j9) := by rw [hMs.out.2 _ _ hR, hD.out, List.map_append]; rfl
        have hjj := hgoL F j9 hR
        replace hM2 := Lib.hid hM2
        have hme := K4.rd.er
        have hma := K4.rd.at_
        clear hMs hR bf11 cf11 zf11 cf10 cf9 hown9 g1 g2 g3 x10 x9
        go_wp2_with fail
        refine ⟨⟨_, j9, 0, .inl ⟨rfl, m, D, K4, Lib.hid ⟨hM2.out, by omega⟩⟩⟩, ?_⟩
        rw [hms0.out, measR, hme, hma, if_pos rfl]; omega
    · go_simp
      refine hih.out.mono ?_
      rintro e w9 ⟨⟨F, vs, vk, x, j9, rfl, hkF, ⟨As, ms, cs, rfl⟩, ⟨Ak, mk, ck, rfl⟩, hj9, r9, hcase⟩, y9⟩
      have cf9 : w9.cell? ⟨fb, 4, none⟩ = some (.slice A C.length c) := (Kd.bf.mod y9 hfg).cell 4
      have x10 : Ext w9 (w9.alloc (.cells #[.int .i64 F.kind, sv F.typ, sv F.val, .slice As ms cs, .slice Ak mk ck] 25)) := (Mod.refl _ w9).alloc _
      have cf10 := ext_cell x10 cf9
      have hown9 : OwnR fic 5 w9 25 (.slice A C.length c) C := Kd.ow.mod y9 (fun b hb h => by have := Kd.fr b hb; have : b = g := h; omega)
      (go_wp2_with fail; refine hK.out _ _ (trivial) (fun hH => ?_); clear hK K hH; try simp only [Act.put, List.setIfInBounds_toArray, List.set_cons_zero, List.set_cons_succ]; try simp only [List.getElem_toArray, List.getElem_cons_succ, List.getElem_cons_zero])
      refine wpAnyH_ready (rs := [1, 6]) (by kernel_rfl) (by simp) ?_
      refine AllReadyH.cons rfl (fun K hK => ?_) (AllReadyH.cons rfl (fun K hK => ?_) AllReadyH.nil)
      · go_simp
        (go_wp2_with fail; refine hK.out _ _ (trivial) (fun hH => ?_); clear hK K hH; try simp only [Act.put, List.setIfInBounds_toArray, List.set_cons_zero, List.set_cons_succ]; try simp only [List.getElem_toArray, List.getElem_cons_succ, List.getElem_cons_zero])
        (refine wpAnyH_ready (rs := [6]) (by kernel_rfl) (by simp) ?_; refine AllReadyH.cons rfl (fun K hK => ?_) AllReadyH.nil; go_simp)
        (go_wp2_with fail; refine hK.out _ _ (trivial) (fun hH => ?_); clear hK K hH; try simp only [Act.put, List.setIfInBounds_toArray, List.set_cons_zero, List.set_cons_succ]; try simp only [List.getElem_toArray, List.getElem_cons_succ, List.getElem_cons_zero])
        refine wpAnyH_ready (rs := [7]) (by kernel_rfl) (by simp) ?_
        refine AllReadyH.cons rfl (fun K hK => ?_) AllReadyH.nil
        refine step_appR (d := 52) tyF fic_len hown9 (x := (F, .slice As ms cs, .slice Ak mk ck)) rfl fic_ok hn1.out rfl rfl (.tmp 46) (.tmp 51) rfl rfl rfl ?_
        intro v2 w11 g1 g2 g3
        have x9 : Ext w9 w9 := Mod.refl _ w9
        have bf11 := (((Kd.bf.mod y9 hfg).mod x9 (fun h => h)).mod g2 (fun h => by have := Kd.fr _ h; have := hfp.out; have := hp.out; omega))
        have cf11 : w11.cell? ⟨fb, 4, none⟩ = some (.slice A C.length c) := bf11.cell 4
        have zf11 : w11.frozen? ⟨fb, 4, none⟩ = false := Blk.frozen bf11 4
        have hK4 : x = 0 → filP n (s.drop j) = .ok (F, s.drop j9) → FilS (fun b => wd.heap.size ≤ b) n w9 F (.slice As ms cs) (.slice Ak mk ck) → KAt3 n w (w11.setCell ⟨fb, 4, none⟩ v2) g p fb kd s v2 (C ++ [((F, Value.slice As ms cs, Value.slice Ak mk ck) : FiC)]) j9 := fun e hR hF => Kd.next hp.out hfp.out hgB y9 (e ▸ r9) hF (hgoL F j9 hR) hj9 x9 g1 g2 g3
        have hE2 : x ≠ 0 → EAt w (w11.setCell ⟨fb, 4, none⟩ v2) g p fb kd s v2 j9 x := fun hx0 => Kd.bad hp.out hfp.out hgB y9 r9 hj9 hx0 x9 g2
        obtain ⟨D, hD⟩ : ∃ D, D = C ++ [((F, Value.slice As ms cs, Value.slice Ak mk ck) : FiC)] := ⟨_, rfl⟩
        rw [← hD] at g1 hK4
        replace hD := Lib.hid hD
        replace hK4 := Lib.hid hK4
        replace hE2 := Lib.hid hE2
        obtain ⟨A2, c2, rfl⟩ := g1.shape
        refine hK.out _ _ trivial (fun hH => ?_)
        clear hK K hH
        (try simp only [Act.put, List.setIfInBounds_toArray]; try simp only [List.getElem_toArray, List.getElem_cons_succ, List.getElem_cons_zero])
        (refine wpAnyH_take (i := 8) (oi := ⟨_, _, _, _, _, _⟩) (v := ?tv13) rfl (by kernel_rfl) (by kernel_rfl) (by kernel_rfl) (fun _ _ _ h => h) (Or.inl ⟨by kernel_rfl, ?hy13⟩) (by assumption) ?rs13; (case hy13 => (intro wx hSw; (try dsimp only at hSw); go_simp; try with_reducible rfl)); try simp only [Act.put, List.setIfInBounds_toArray, List.set_cons_zero, List.set_cons_succ]; try simp only [List.getElem_toArray, List.getElem_cons_succ, List.getElem_cons_zero])
        (refine wpAnyH_ready (rs := [9]) (by kernel_rfl) (by simp) ?_; refine AllReadyH.cons rfl (fun K hK => ?_) AllReadyH.nil; go_simp)
        (go_wp2_with fail; refine hK.out _ _ (trivial) (fun hH => ?_); clear hK K hH; try simp only [Act.put, List.setIfInBounds_toArray, List.set_cons_zero, List.set_cons_succ]; try simp only [List.getElem_toArray, List.getElem_cons_succ, List.getElem_cons_zero])
        refine wpAnyH_done (by kernel_rfl) ?_ _
        rcases hcase with ⟨hR, hx0⟩ | ⟨hR, rfl, hF⟩
        · have E2 := hE2.out hx0
          have hM2 := Lib.hid (hMs.out.1 x hR)
          have hme := E2.rd.er
          clear hMs hR bf11 cf11 zf11 cf10 cf9 hown9 g1 g2 g3 x10 x9
          go_wp2_with fail
          refine ⟨⟨_, j9, x, .inr ⟨E2, ⟨_, _, _, rfl⟩, hM2⟩⟩, ?_⟩
          rw [hms0.out, measR, hme, if_neg hx0]; omega
        · have K4 := hK4.out rfl hR hF
          have hM2 : M = manyP (filP n) m true (D.map (·.1)) (s.drop j9) := by rw [hMs.out.2 _ _ hR, hD.out, List.map_append]; rfl
          have hjj := hgoL F j9 hR
          replace hM2 := Lib.hid hM2
          have hme := K4.rd.er
          have hma := K4.rd.at_
          clear hMs hR bf11 cf11 zf11 cf10 cf9 hown9 g1 g2 g3 x10 x9
          go_wp2_with fail
          refine ⟨⟨_, j9, 0, .inl ⟨rfl, m, D, K4, Lib.hid ⟨hM2.out, by omega⟩⟩⟩, ?_⟩
          rw [hms0.out, measR, hme, hma, if_pos rfl]; omega
      · go_simp
        (go_wp2_with fail; refine hK.out _ _ (trivial) (fun hH => ?_); clear hK K hH; try simp only [Act.put, List.setIfInBounds_toArray, List.set_cons_zero, List.set_cons_succ]; try simp only [List.getElem_toArray, List.getElem_cons_succ, List.getElem_cons_zero])
        (refine wpAnyH_ready (rs := [1]) (by kernel_rfl) (by simp) ?_; refine AllReadyH.cons rfl (fun K hK => ?_) AllReadyH.nil; go_simp)
        (go_wp2_with fail; refine hK.out _ _ (trivial) (fun hH => ?_); clear hK K hH; try simp only [Act.put, List.setIfInBounds_toArray, List.set_cons_zero, List.set_cons_succ]; try simp only [List.getElem_toArray, List.getElem_cons_succ, List.getElem_cons_zero])
        refine wpAnyH_ready (rs := [7]) (by kernel_rfl) (by simp) ?_
        refine AllReadyH.cons rfl (fun K hK => ?_) AllReadyH.nil
        refine step_appR (d := 52) tyF fic_len hown9 (x := (F, .slice As ms cs, .slice Ak mk ck)) rfl fic_ok hn1.out rfl rfl (.tmp 46) (.tmp 51) rfl rfl rfl ?_
        intro v2 w11 g1 g2 g3
        have x9 : Ext w9 w9 := Mod.refl _ w9
        have bf11 := (((Kd.bf.mod y9 hfg).mod x9 (fun h => h)).mod g2 (fun h => by have := Kd.fr _ h; have := hfp.out; have := hp.out; omega))
        have cf11 : w11.cell? ⟨fb, 4, none⟩ = some (.slice A C.length c) := bf11.cell 4
        have zf11 : w11.frozen? ⟨fb, 4, none⟩ = false := Blk.frozen bf11 4
        have hK4 : x = 0 → filP n (s.drop j) = .ok (F, s.drop j9) → FilS (fun b => wd.heap.size ≤ b) n w9 F (.slice As ms cs) (.slice Ak mk ck) → KAt3 n w (w11.setCell ⟨fb, 4, none⟩ v2) g p fb kd s v2 (C ++ [((F, Value.slice As ms cs, Value.slice Ak mk ck) : FiC)]) j9 := fun e hR hF => Kd.next hp.out hfp.out hgB y9 (e ▸ r9) hF (hgoL F j9 hR) hj9 x9 g1 g2 g3
        have hE2 : x ≠ 0 → EAt w (w11.setCell ⟨fb, 4, none⟩ v2) g p fb kd s v2 j9 x := fun hx0 => Kd.bad hp.out hfp.out hgB y9 r9 hj9 hx0 x9 g2
        obtain ⟨D, hD⟩ : ∃ D, D = C ++ [((F, Value.slice As ms cs, Value.slice Ak mk ck) : FiC)] := ⟨_, rfl⟩
        rw [← hD] at g1 hK4
        replace hD := Lib.hid hD
        replace hK4 := Lib.hid hK4
        replace hE2 := Lib.hid hE2
        obtain ⟨A2, c2, rfl⟩ := g1.shape
        refine hK.out _ _ trivial (fun hH => ?_)
        clear hK K hH
        (try simp only [Act.put, List.setIfInBounds_toArray]; try simp only [List.getElem_toArray, List.getElem_cons_succ, List.getElem_cons_zero])
        (refine wpAnyH_take (i := 8) (oi := ⟨_, _, _, _, _, _⟩) (v := ?tv14) rfl (by kernel_rfl) (by kernel_rfl) (by kernel_rfl) (fun _ _ _ h => h) (Or.inl ⟨by kernel_rfl, ?hy14⟩) (by assumption) ?rs14; (case hy14 => (intro wx hSw; (try dsimp only at hSw); go_simp; try with_reducible rfl)); try simp only [Act.put, List.setIfInBounds_toArray, List.set_cons_zero, List.set_cons_succ]; try simp only [List.getElem_toArray, List.getElem_cons_succ, List.getElem_cons_zero])
        (refine wpAnyH_ready (rs := [9]) (by kernel_rfl) (by simp) ?_; refine AllReadyH.cons rfl (fun K hK => ?_) AllReadyH.nil; go_simp)
        (go_wp2_with fail; refine hK.out _ _ (trivial) (fun hH => ?_); clear hK K hH; try simp only [Act.put, List.setIfInBounds_toArray, List.set_cons_zero, List.set_cons_succ]; try simp only [List.getElem_toArray, List.getElem_cons_succ, List.getElem_cons_zero])
        refine wpAnyH_done (by kernel_rfl) ?_ _
        rcases hcase with ⟨hR, hx0⟩ | ⟨hR, rfl, hF⟩
        · have E2 := hE2.out hx0
          have hM2 := Lib.hid (hMs.out.1 x hR)
          have hme := E2.rd.er
          clear hMs hR bf11 cf11 zf11 cf10 cf9 hown9 g1 g2 g3 x10 x9
          go_wp2_with fail
          refine ⟨⟨_, j9, x, .inr ⟨E2, ⟨_, _, _, rfl⟩, hM2⟩⟩, ?_⟩
          rw [hms0.out, measR, hme, if_neg hx0]; omega
        · have K4 := hK4.out rfl hR hF
          have hM2 : M = manyP (filP n) m true (D.map (·.1)) (s.drop j9) := by rw [hMs.out.2 _ _ hR, hD.out, List.map_append]; rfl
          have hjj := hgoL F j9 hR
          replace hM2 := Lib.hid hM2
          have hme := K4.rd.er
          have hma := K4.rd.at_
          clear hMs hR bf11 cf11 zf11 cf10 cf9 hown9 g1 g2 g3 x10 x9
          go_wp2_with fail
          refine ⟨⟨_, j9, 0, .inl ⟨rfl, m, D, K4, Lib.hid ⟨hM2.out, by omega⟩⟩⟩, ?_⟩
          rw [hms0.out, measR, hme, hma, if_pos rfl]; omega
end Go.Proofs.Ytekocbphdckmkaa
