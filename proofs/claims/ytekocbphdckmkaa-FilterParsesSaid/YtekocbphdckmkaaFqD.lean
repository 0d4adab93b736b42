/- filter: a filter as it is printed: the program's write. -/
import Derived.Test.YtekocbphdckmkaaFqC
import Derived.Deep.CutBlock
import Derived.Deep.DeepCutAuto
namespace Go.Proofs.Ytekocbphdckmkaa
open Go.RowKit
set_option maxRecDepth 100000

theorem toldV_len : ∀ s : List UInt8, s.length ≤ (toldB s).length
  | [] => Nat.zero_le _
  | b :: s => by
    have := toldV_len s
    have h2 := escP_len b
    unfold toldB at this ⊢
    rw [List.flatMap_cons, List.length_append, List.length_cons]
    omega
def joinB : List (List UInt8) → List UInt8
  | [] => []
  | x :: r => toldB x ++ r.flatMap (fun y => 42 :: toldB y)
theorem joinB_one (L : List (List UInt8)) (h : 0 < L.length) : joinB (L.take (0 + 1)) = toldB L[0] := by
  cases L with
  | nil => cases h
  | cons x r => simp [joinB]
theorem joinB_snoc (L : List (List UInt8)) {k : Nat} (h : k < L.length) (h0 : 0 < k) : joinB (L.take (k + 1)) = (joinB (L.take k) ++ [42]) ++ toldB L[k] := by
  cases L with
  | nil => cases h
  | cons x r =>
    obtain ⟨k, rfl⟩ : ∃ j, k = j + 1 := ⟨k - 1, by omega⟩
    have hk : k < r.length := by simpa using h
    simp only [List.take_succ_cons, joinB, List.getElem_cons_succ]
    rw [List.take_succ_eq_append_getElem hk, List.flatMap_append]
    simp
theorem join_take_len (L : List (List UInt8)) (k : Nat) : (joinB (L.take k)).length ≤ (joinB L).length := by
  cases L with
  | nil => simp [joinB]
  | cons x r =>
    cases k with
    | zero => simp [joinB]
    | succ k =>
      simp only [List.take_succ_cons, joinB, List.length_append]
      have : (r.take k).flatMap (fun y => 42 :: toldB y) ++ (r.drop k).flatMap (fun y => 42 :: toldB y) = r.flatMap (fun y => 42 :: toldB y) := by rw [← List.flatMap_append, List.take_append_drop]
      have h2 := congrArg List.length this
      rw [List.length_append] at h2
      omega
theorem join_mem_len (L : List (List UInt8)) {k : Nat} (h : k < L.length) : (L[k]).length ≤ (joinB L).length := by
  have h1 := join_take_len L (k + 1)
  have h2 : (L[k]).length ≤ (toldB L[k]).length := toldV_len _
  by_cases h0 : 0 < k
  · rw [joinB_snoc L h h0, List.length_append] at h1
    omega
  · obtain rfl : k = 0 := by omega
    rw [joinB_one L h] at h1
    omega
def midB (kd : Int) (T V : List UInt8) (B : List (List UInt8)) : List UInt8 :=
  if kd = 0 then [38] else if kd = 1 then [124] else if kd = 2 then [33] else if kd = 3 then (T ++ [61]) ++ toldB V else if kd = 5 then (T ++ [62, 61]) ++ toldB V else if kd = 6 then (T ++ [60, 61]) ++ toldB V else if kd = 7 then T ++ [61, 42] else if kd = 4 then (T ++ [61]) ++ joinB B else []
/-- A filter as a text. -/
def textN : Nat → Fi → List UInt8
  | 0, _ => []
  | n + 1, F => ([40] ++ midB F.kind F.typ F.val F.subs) ++ F.kids.flatMap (textN n) ++ [41]
theorem textN_succ (n : Nat) (F : Fi) : textN (n + 1) F = ([40] ++ midB F.kind F.typ F.val F.subs) ++ F.kids.flatMap (textN n) ++ [41] := rfl
theorem kids_snoc (n : Nat) (K : List Fi) {k : Nat} (h : k < K.length) : (K.take (k + 1)).flatMap (textN n) = (K.take k).flatMap (textN n) ++ textN n K[k] := by
  rw [List.take_succ_eq_append_getElem h, List.flatMap_append]
  simp
theorem kids_take_len (n : Nat) (K : List Fi) (k : Nat) : ((K.take k).flatMap (textN n)).length ≤ (K.flatMap (textN n)).length := by
  have : (K.take k).flatMap (textN n) ++ (K.drop k).flatMap (textN n) = K.flatMap (textN n) := by rw [← List.flatMap_append, List.take_append_drop]
  have h2 := congrArg List.length this
  rw [List.length_append] at h2
  omega
section
variable {P : Program} {w : World} {t u e : TypeId} {ops : Array Oper} {rest : List Oper} {o : Oper} {a : Act} {Q : Exit → Act → World → Prop}
/-- append(v, s...) at a step of a region that draws. -/
theorem step_appS {K : Act → World → Prop} {E : Prop} {d : Tmp} (hT : SliceTy P t e (.int .u8 0) 1) (hu : P.underlying u = some .string) {v : Value} {xs : List UInt8} {l : List UInt8} (hown : Own w e v (xs.map bv)) (hn : xs.length + l.length ≤ 140737488355328)
    (hgd : o.guard = none) (hd : o.dst = some d) (s y : Operand) (ho : o.op = .call { callee := .builtin .append, args := #[s, y], argTypes := #[t, u] }) (hs : a.eval s = v) (hy : a.eval y = sv l)
    (h : ∀ v' w', Own w' e v' ((xs ++ l).map bv) → Mod (own v) w w' → Next w.heap.size v v' → K (a.put o.dst v') w') : if Region.wanted o (yielded ops a.tmps) = true then Oper.wp P o a w K Q else E := by
  have hw : Region.wanted o (yielded ops a.tmps) = true := by simp [Region.wanted, hgd]
  rw [if_pos hw]
  obtain ⟨v', w', hrun, h2, h3, h4⟩ := run_appS (P := P) hT hu o.type hown l (by rw [List.length_map]; exact hn)
  unfold Oper.wp execOp
  simp only [ho, resolve, invoke, builtin, Sem.run_bind, Sem.run_pure, Result.andThen_ok, List.map_toArray, List.map_cons, List.map_nil, hs, hy, hrun]
  simp only [Oper.upon, hd]
  have := h v' w' (by rw [List.map_append]; exact h2) h3 h4
  rw [hd] at this
  exact this
end
/-- What write leaves. -/
def WIH (n : Nat) : Prop := ∀ {w0 w : World} {F : Fi} {vs vk v : Value} {l : List UInt8}, FilN n w0 F vs vk → Ext w0 w → Own w 5 v (l.map bv) → Fresh w0.heap.size v → l.length + (textN n F).length ≤ 10000000 →
  Calls Try.prog 24 #[v, filV F vs vk] w fun e w' => ∃ v', e = .returned v' ∧ Own w' 5 v' ((l ++ textN n F).map bv) ∧ Next w.heap.size v v' ∧ Mod (own v) w w'
/-- Where write has come. -/
structure WAt (w1 wr : World) (p : Nat) (v vo : Value) (o : List UInt8) (cs : Array Value) : Prop where
  ow : Own wr 5 vo (o.map bv)
  nx : Next w1.heap.size v vo
  mod : Mod (own v) w1 wr
  bp : Blk wr p 25 cs
theorem WAt.next {w1 wr w2 : World} {p : Nat} {v vo v2 : Value} {o o2 : List UInt8} {cs : Array Value} (h : WAt w1 wr p v vo o cs) (hv : v.ownBlock ≠ some p) (hp : p < w1.heap.size) (k1 : Own w2 5 v2 (o2.map bv)) (k2 : Mod (own vo) wr w2) (k3 : Next wr.heap.size vo v2) : WAt w1 w2 p v v2 o2 cs :=
  ⟨k1, h.nx.trans k3 h.mod.size, h.mod.then_ k2 (fun _b hb ho => h.nx.sub hb ho), h.bp.mod k2 (fun ho => h.nx.ne hp hv ho)⟩
theorem WAt.s12 {w1 wr : World} {p : Nat} {v vo : Value} {o : List UInt8} {c0 c1 c2 c3 c4 : Value} (h : WAt w1 wr p v vo o #[c0, c1, c2, c3, c4]) : wr.cell? ⟨p, 1, none⟩ = some c1 ∧ wr.cell? ⟨p, 2, none⟩ = some c2 := ⟨h.bp.cell 1, h.bp.cell 2⟩
theorem WAt.ext {w1 wr w2 : World} {p : Nat} {v vo : Value} {o : List UInt8} {cs : Array Value} (h : WAt w1 wr p v vo o cs) (x : Ext wr w2) : WAt w1 w2 p v vo o cs :=
  ⟨h.ow.mod x (fun _ _ h => h), h.nx, h.mod.then_ x (fun _ _ h => h.elim), h.bp.mod x (fun h => h)⟩
set_option maxHeartbeats 32000000 in
theorem fwrite_step {n : Nat} (ih : WIH n) : WIH (n + 1) := by
  intro w0 w F vs vk v l h hx0 hown hfr hln
  obtain ⟨hFB, ⟨As, cs, es⟩, hS, A, ca, ek, hop⟩ := h.open_
  have hkl := hFB.kl
  have hty := hFB.ty
  have hvl := hFB.vl
  have hkd := hFB.kd
  obtain ⟨R, hR⟩ : ∃ R, R = l ++ textN (n + 1) F := ⟨_, rfl⟩
  rw [← hR]
  rw [textN_succ] at hR hln
  show Calls Try.prog 24 #[v, .agg #[.int .i64 F.kind, sv F.typ, sv F.val, vs, vk]] w _
  obtain ⟨K, hKs⟩ : ∃ T, T = F.kids := ⟨_, rfl⟩
  rw [← hKs] at hkl ek hop hR hln
  obtain ⟨B, hBs⟩ : ∃ T, T = F.subs := ⟨_, rfl⟩
  rw [← hBs] at es hS hR hln
  generalize F.kind = kd at *
  generalize F.typ = T at *
  generalize F.val = V at *
  obtain ⟨m, hm⟩ : ∃ m, m = B.length := ⟨_, rfl⟩
  obtain ⟨q, hq⟩ : ∃ m, m = K.length := ⟨_, rfl⟩
  rw [← hm] at es
  rw [← hq] at ek hkl
  subst es ek
  obtain ⟨w1, hw1⟩ : ∃ x, x = w.alloc (.cells #[.int .i64 kd, sv T, sv V, .slice As m cs, .slice A q ca] 25) := ⟨_, rfl⟩
  obtain ⟨p, hp⟩ : ∃ p, p = w.heap.size := ⟨_, rfl⟩
  have x1 : Ext w w1 := by rw [hw1]; exact (Mod.refl _ w).alloc _
  have BP : Blk w1 p 25 #[.int .i64 kd, sv T, sv V, .slice As m cs, .slice A q ca] := by rw [hw1, hp]; exact Blk.new w _ _
  have hpw1 : p < w1.heap.size := BP.lt
  have hvp : v.ownBlock ≠ some p := fun h => by have := hown.lt h; omega
  have W1 : WAt w1 w1 p v v l #[.int .i64 kd, sv T, sv V, .slice As m cs, .slice A q ca] := ⟨hown.mod x1 (fun _ _ h => h), Next.refl _ _, Mod.refl _ _, BP⟩
  have hmv : ∀ {wr : World}, Mod (own v) w1 wr → Ext w0 wr := fun m => (ext_trans hx0 x1).trans m (fun _ _ h => h) (fun b hb ho => by have := hfr b ho; omega)
  have hfin : ∀ {wr : World} {vo : Value} {o : List UInt8} {cs : Array Value}, WAt w1 wr p v vo o cs → Next w.heap.size v vo ∧ Mod (own v) w wr := fun W => ⟨by
    rcases W.nx with h | h
    · exact .inl h
    · exact .inr (h.mono x1.size), (x1.mono (fun _ _ h => h.elim)).then_ W.mod (fun _ _ h => h)⟩
  simp only [List.length_append, List.length_cons, List.length_nil] at hln
  obtain ⟨A0, c0, rfl⟩ := hown.shape
  rw [List.length_map] at hvp W1 hmv hfin hown hfr ⊢
  have hl1 := Lib.hid (show l.length + 1 ≤ 140737488355328 by omega)
  replace hm := Lib.hid hm
  replace hq := Lib.hid hq
  replace hw1 := Lib.hid hw1
  replace hp := Lib.hid hp
  replace hR := Lib.hid hR
  replace hln := Lib.hid hln
  clear BP h hFB hown x1
  go_enter Try.func24, Try.ntmps24
  go_upto_region 1 with fail
  rw [← hw1.out, ← hp.out]
  clear hw1 hp
  obtain ⟨l1, hl1e⟩ : ∃ l1, l1 = l ++ [40] := ⟨_, rfl⟩
  replace hl1e := Lib.hid hl1e
  go_upto_block 0 with ((with_reducible show wpList _ _ _ (⟨some 11, _, _, _, _, _⟩ :: _) _ _); refine wp_app1 (b := 40) tyB W1.ow rfl hl1.out rfl (.tmp 9) (.tmp 10) rfl rfl rfl ?_; intro v2 w2 k1 k2 k3; have W2 := W1.next hvp hpw1 k1 k2 k3; rw [← hl1e.out] at k1 W2; obtain ⟨A2, c2, rfl⟩ := k1.shape; obtain ⟨-, p0, p1, p2, p3, p4⟩ := W2.bp.five)
  have hl1m : l1.length + (midB kd T V B).length + (K.flatMap (textN n)).length + 1 ≤ 10000000 := by
    rw [hl1e.out, List.length_append, List.length_singleton]
    have := hln.out
    omega
  rw [List.length_map] at W2 k1
  go_cut [0] (fun s0 wx => WAt w1 wx p (.slice A0 l.length c0) s0 (l1 ++ midB kd T V B) #[.int .i64 kd, sv T, sv V, .slice As m cs, .slice A q ca])
  case first =>
    clear hR hln hl1e hop W1 hl1 k3 k2
    by_cases h0 : kd = 0
    · subst h0
      have hmid : midB 0 T V B = [38] := rfl
      rw [hmid] at hl1m
      replace hmid := Lib.hid hmid
      have hb := Lib.hid (show l1.length + 1 ≤ 140737488355328 by omega)
      go_wp2_with ((with_reducible show wpList _ _ _ (⟨some 18, _, _, _, _, _⟩ :: _) _ _); refine wp_app1 (b := 38) tyB W2.ow rfl hb.out rfl (.tmp 16) (.tmp 17) rfl rfl rfl ?_; intro v3 w3 g1 g2 g3)
      go_meet
      rw [hmid.out]
      exact W2.next hvp hpw1 g1 g2 g3
    have e0 : (kd == 0) = false := beq_eq_false_iff_ne.2 h0
    by_cases h1 : kd = 1
    · subst h1
      have hmid : midB 1 T V B = [124] := rfl
      rw [hmid] at hl1m
      replace hmid := Lib.hid hmid
      have hb := Lib.hid (show l1.length + 1 ≤ 140737488355328 by omega)
      go_wp2_with ((with_reducible show wpList _ _ _ (⟨some 23, _, _, _, _, _⟩ :: _) _ _); refine wp_app1 (b := 124) tyB W2.ow rfl hb.out rfl (.tmp 21) (.tmp 22) rfl rfl rfl ?_; intro v3 w3 g1 g2 g3)
      go_meet
      rw [hmid.out]
      exact W2.next hvp hpw1 g1 g2 g3
    have e1 : (kd == 1) = false := beq_eq_false_iff_ne.2 h1
    by_cases h2 : kd = 2
    · subst h2
      have hmid : midB 2 T V B = [33] := rfl
      rw [hmid] at hl1m
      replace hmid := Lib.hid hmid
      have hb := Lib.hid (show l1.length + 1 ≤ 140737488355328 by omega)
      go_wp2_with ((with_reducible show wpList _ _ _ (⟨some 28, _, _, _, _, _⟩ :: _) _ _); refine wp_app1 (b := 33) tyB W2.ow rfl hb.out rfl (.tmp 26) (.tmp 27) rfl rfl rfl ?_; intro v3 w3 g1 g2 g3)
      go_meet
      rw [hmid.out]
      exact W2.next hvp hpw1 g1 g2 g3
    have e2 : (kd == 2) = false := beq_eq_false_iff_ne.2 h2
    by_cases h3 : kd = 3
    · subst h3
      have hmid : midB 3 T V B = (T ++ [61]) ++ toldB V := rfl
      rw [hmid] at hl1m
      replace hmid := Lib.hid hmid
      simp only [List.length_append, List.length_cons, List.length_nil] at hl1m
      have hVl := toldV_len V
      have hcat : (⟨T.toArray⟩ : ByteArray) ++ ⟨#[61]⟩ = ⟨(T ++ [61]).toArray⟩ := cat_data T [61]
      have hadd : ¬ 9223372036854775807 < T.length + 1 := by omega
      have hb := Lib.hid (show l1.length + (T ++ [61]).length ≤ 140737488355328 by rw [List.length_append]; simp; omega)
      have hpb := Lib.hid (show (l1 ++ (T ++ [61])).length + 3 * V.length ≤ 100000000 by simp only [List.length_append, List.length_cons, List.length_nil]; omega)
      obtain ⟨TT, hTT⟩ : ∃ TT, TT = T ++ [61] := ⟨_, rfl⟩
      rw [← hTT] at hcat hb hpb
      replace hTT := Lib.hid hTT
      have W2d : WAt w1 w2.drew p (.slice A0 l.length c0) (.slice A2 l1.length c2) l1 _ := W2.ext ((Mod.refl _ w2).drew)
      obtain ⟨L2, hL2⟩ : ∃ L2, L2 = l1 ++ TT := ⟨_, rfl⟩
      rw [← hL2] at hpb
      replace hL2 := Lib.hid hL2
      go_upto_region 10 with fail
      go_region_held3 (fun wx => wx.cell? ⟨p, 1, none⟩ = some (sv T) ∧ wx.cell? ⟨p, 2, none⟩ = some (sv V)) (first | exact W2d.s12 | exact W3.s12 | exact W4.s12) (first
        | (refine step_appS (d := 35) tyB Try.underlying9 W2d.ow hb.out rfl rfl (.tmp 31) (.tmp 34) rfl rfl rfl ?_; intro v3 w3 g1 g2 g3; have W3 := W2d.next hvp hpw1 g1 g2 g3; rw [← hL2.out] at g1 W3; have hpc := fpv_any W3.ow hpb.out; obtain ⟨A3, c3, rfl⟩ := g1.shape; rw [List.length_map] at W3 hpc ⊢)
        | (go_at_call 36; (refine hpc.mono ?_); rintro e4 w4 ⟨v4, rfl, g4, g5, g6⟩; have W4 := W3.next hvp hpw1 g4 g6 g5))
      go_wp2_with fail
      go_meet
      rw [hmid.out, ← List.append_assoc, ← hTT.out, ← hL2.out]
      exact W4
    have e3 : (kd == 3) = false := beq_eq_false_iff_ne.2 h3
    by_cases h5 : kd = 5
    · subst h5
      have hmid : midB 5 T V B = (T ++ [62, 61]) ++ toldB V := rfl
      rw [hmid] at hl1m
      replace hmid := Lib.hid hmid
      simp only [List.length_append, List.length_cons, List.length_nil] at hl1m
      have hVl := toldV_len V
      have hcat : (⟨T.toArray⟩ : ByteArray) ++ ⟨#[62, 61]⟩ = ⟨(T ++ [62, 61]).toArray⟩ := cat_data T [62, 61]
      have hadd : ¬ 9223372036854775807 < T.length + 2 := by omega
      have hb := Lib.hid (show l1.length + (T ++ [62, 61]).length ≤ 140737488355328 by rw [List.length_append]; simp; omega)
      have hpb := Lib.hid (show (l1 ++ (T ++ [62, 61])).length + 3 * V.length ≤ 100000000 by simp only [List.length_append, List.length_cons, List.length_nil]; omega)
      obtain ⟨TT, hTT⟩ : ∃ TT, TT = T ++ [62, 61] := ⟨_, rfl⟩
      rw [← hTT] at hcat hb hpb
      replace hTT := Lib.hid hTT
      have W2d : WAt w1 w2.drew p (.slice A0 l.length c0) (.slice A2 l1.length c2) l1 _ := W2.ext ((Mod.refl _ w2).drew)
      obtain ⟨L2, hL2⟩ : ∃ L2, L2 = l1 ++ TT := ⟨_, rfl⟩
      rw [← hL2] at hpb
      replace hL2 := Lib.hid hL2
      go_upto_region 12 with fail
      go_region_held3 (fun wx => wx.cell? ⟨p, 1, none⟩ = some (sv T) ∧ wx.cell? ⟨p, 2, none⟩ = some (sv V)) (first | exact W2d.s12 | exact W3.s12 | exact W4.s12) (first
        | (refine step_appS (d := 45) tyB Try.underlying9 W2d.ow hb.out rfl rfl (.tmp 41) (.tmp 44) rfl rfl rfl ?_; intro v3 w3 g1 g2 g3; have W3 := W2d.next hvp hpw1 g1 g2 g3; rw [← hL2.out] at g1 W3; have hpc := fpv_any W3.ow hpb.out; obtain ⟨A3, c3, rfl⟩ := g1.shape; rw [List.length_map] at W3 hpc ⊢)
        | (go_at_call 36; (refine hpc.mono ?_); rintro e4 w4 ⟨v4, rfl, g4, g5, g6⟩; have W4 := W3.next hvp hpw1 g4 g6 g5))
      go_wp2_with fail
      go_meet
      rw [hmid.out, ← List.append_assoc, ← hTT.out, ← hL2.out]
      exact W4
    have e5 : (kd == 5) = false := beq_eq_false_iff_ne.2 h5
    by_cases h6 : kd = 6
    · subst h6
      have hmid : midB 6 T V B = (T ++ [60, 61]) ++ toldB V := rfl
      rw [hmid] at hl1m
      replace hmid := Lib.hid hmid
      simp only [List.length_append, List.length_cons, List.length_nil] at hl1m
      have hVl := toldV_len V
      have hcat : (⟨T.toArray⟩ : ByteArray) ++ ⟨#[60, 61]⟩ = ⟨(T ++ [60, 61]).toArray⟩ := cat_data T [60, 61]
      have hadd : ¬ 9223372036854775807 < T.length + 2 := by omega
      have hb := Lib.hid (show l1.length + (T ++ [60, 61]).length ≤ 140737488355328 by rw [List.length_append]; simp; omega)
      have hpb := Lib.hid (show (l1 ++ (T ++ [60, 61])).length + 3 * V.length ≤ 100000000 by simp only [List.length_append, List.length_cons, List.length_nil]; omega)
      obtain ⟨TT, hTT⟩ : ∃ TT, TT = T ++ [60, 61] := ⟨_, rfl⟩
      rw [← hTT] at hcat hb hpb
      replace hTT := Lib.hid hTT
      have W2d : WAt w1 w2.drew p (.slice A0 l.length c0) (.slice A2 l1.length c2) l1 _ := W2.ext ((Mod.refl _ w2).drew)
      obtain ⟨L2, hL2⟩ : ∃ L2, L2 = l1 ++ TT := ⟨_, rfl⟩
      rw [← hL2] at hpb
      replace hL2 := Lib.hid hL2
      go_upto_region 14 with fail
      go_region_held3 (fun wx => wx.cell? ⟨p, 1, none⟩ = some (sv T) ∧ wx.cell? ⟨p, 2, none⟩ = some (sv V)) (first | exact W2d.s12 | exact W3.s12 | exact W4.s12) (first
        | (refine step_appS (d := 55) tyB Try.underlying9 W2d.ow hb.out rfl rfl (.tmp 51) (.tmp 54) rfl rfl rfl ?_; intro v3 w3 g1 g2 g3; have W3 := W2d.next hvp hpw1 g1 g2 g3; rw [← hL2.out] at g1 W3; have hpc := fpv_any W3.ow hpb.out; obtain ⟨A3, c3, rfl⟩ := g1.shape; rw [List.length_map] at W3 hpc ⊢)
        | (go_at_call 36; (refine hpc.mono ?_); rintro e4 w4 ⟨v4, rfl, g4, g5, g6⟩; have W4 := W3.next hvp hpw1 g4 g6 g5))
      go_wp2_with fail
      go_meet
      rw [hmid.out, ← List.append_assoc, ← hTT.out, ← hL2.out]
      exact W4
    have e6 : (kd == 6) = false := beq_eq_false_iff_ne.2 h6
    by_cases h7 : kd = 7
    · subst h7
      have hmid : midB 7 T V B = T ++ [61, 42] := rfl
      rw [hmid] at hl1m
      replace hmid := Lib.hid hmid
      simp only [List.length_append, List.length_cons, List.length_nil] at hl1m
      have hcat : (⟨T.toArray⟩ : ByteArray) ++ ⟨#[61, 42]⟩ = ⟨(T ++ [61, 42]).toArray⟩ := cat_data T [61, 42]
      have hadd : ¬ 9223372036854775807 < T.length + 2 := by omega
      have hb := Lib.hid (show l1.length + (T ++ [61, 42]).length ≤ 140737488355328 by rw [List.length_append]; simp; omega)
      have hL2l := Lib.hid (show (l1 ++ (T ++ [61, 42])).length = l1.length + T.length + 2 by simp only [List.length_append, List.length_cons, List.length_nil]; omega)
      obtain ⟨TT, hTT⟩ : ∃ TT, TT = T ++ [61, 42] := ⟨_, rfl⟩
      rw [← hTT] at hcat hb hL2l
      replace hTT := Lib.hid hTT
      obtain ⟨L2, hL2⟩ : ∃ L2, L2 = l1 ++ TT := ⟨_, rfl⟩
      rw [← hL2] at hL2l
      replace hL2 := Lib.hid hL2
      go_wp2_with ((with_reducible show wpList _ _ _ (⟨some 65, _, _, _, _, _⟩ :: _) _ _); refine wp_appS tyB Try.underlying9 W2.ow hb.out rfl (.tmp 61) (.tmp 64) rfl rfl rfl ?_; intro v3 w3 g1 g2 g3)
      go_meet
      rw [hmid.out, ← hTT.out]
      exact W2.next hvp hpw1 g1 g2 g3
    have e7 : (kd == 7) = false := beq_eq_false_iff_ne.2 h7
    by_cases h4 : kd = 4
    · subst h4
      have hmid : midB 4 T V B = (T ++ [61]) ++ joinB B := rfl
      rw [hmid] at hl1m
      replace hmid := Lib.hid hmid
      simp only [List.length_append, List.length_cons, List.length_nil] at hl1m
      have hcat : (⟨T.toArray⟩ : ByteArray) ++ ⟨#[61]⟩ = ⟨(T ++ [61]).toArray⟩ := cat_data T [61]
      have hadd : ¬ 9223372036854775807 < T.length + 1 := by omega
      have hb := Lib.hid (show l1.length + (T ++ [61]).length ≤ 140737488355328 by rw [List.length_append]; simp; omega)
      have hL2l := Lib.hid (show (l1 ++ (T ++ [61])).length = l1.length + T.length + 1 by simp only [List.length_append, List.length_cons, List.length_nil]; omega)
      obtain ⟨TT, hTT⟩ : ∃ TT, TT = T ++ [61] := ⟨_, rfl⟩
      rw [← hTT] at hcat hb hL2l
      replace hTT := Lib.hid hTT
      obtain ⟨L2, hL2⟩ : ∃ L2, L2 = l1 ++ TT := ⟨_, rfl⟩
      rw [← hL2] at hL2l
      replace hL2 := Lib.hid hL2
      go_upto_region 19 with ((with_reducible show wpList _ _ _ (⟨some 72, _, _, _, _, _⟩ :: _) _ _); refine wp_appS tyB Try.underlying9 W2.ow hb.out rfl (.tmp 68) (.tmp 71) rfl rfl rfl ?_; intro v3 w3 g1 g2 g3; have W3 := W2.next hvp hpw1 g1 g2 g3; rw [← hL2.out] at g1 W3; obtain ⟨A3, c3, rfl⟩ := g1.shape; obtain ⟨-, o0, o1, o2, o3, o4⟩ := W3.bp.five)
      rw [List.length_map] at W3 g1
      have hjm : L2.length + (joinB B).length ≤ 10000000 := by have := hL2l.out; omega
      clear g1 g2 g3 W2 k1 p0 p1 p2 p3 p4
      go_wp2_with fail
      clear o0 o1 o2 o3 o4
      go_loopw [0, 76] (fun vo i wr => ∃ k : Nat, k ≤ m ∧ i = .int .i64 k ∧ WAt w1 wr p (.slice A0 l.length c0) vo (L2 ++ joinB (B.take k)) #[.int .i64 4, sv T, sv V, .slice As m cs, .slice A q ca]) (fun _ i _ => m - (intOf i).toNat)
      case atStart => exact ⟨0, Nat.zero_le _, rfl, by rw [List.take_zero, joinB, List.append_nil]; exact W3⟩
      case round =>
        clear W3
        obtain ⟨k, hk, rfl, W4⟩ := hrel
        by_cases hlt : k < m
        case neg =>
          have hbl : decide ((k : Int) < (m : Int)) = false := dfalse (by omega)
          have hbn : decide (k < m) = false := dfalse (by omega)
          rw [List.take_of_length_le (by have := hm.out; omega)] at W4
          replace W4 := Lib.hid W4
          go_wp2_with fail
          go_meet
          rw [hmid.out, ← hTT.out, ← List.append_assoc, ← hL2.out]
          exact W4.out
        have hbl : decide ((k : Int) < (m : Int)) = true := dtrue (by omega)
        have hbn : decide (k < m) = true := dtrue (by omega)
        have hi0 : (0 : Int) ≤ (k : Int) := by omega
        have hi1 : (k : Int) < (m : Int) := by omega
        have hkb : k < B.length := by have := hm.out; omega
        obtain ⟨A9, c9, e9, _, _, _, h5⟩ := (Sl.ext hS (hmv W4.mod)).open_
        rw [← hm.out] at e9
        injection e9 with e1 e2 e3
        clear e2
        subst e1
        subst e3
        obtain ⟨ag, e2, _, h6⟩ := h5.at_ hkb
        subst e2
        obtain ⟨A9, c9, e9, _, _, _, h50⟩ := Sl.open_ hS
        obtain ⟨ag', e2, _, h60⟩ := h50.at_ hkb
        rw [← hm.out] at e9
        injection e9 with e91 e92 e93
        clear e92 e93
        rw [← e91] at e2
        cases e2
        clear e91 h50
        have hml := join_mem_len B hkb
        have htl := join_take_len B k
        have htl2 := join_take_len B (k + 1)
        have hpc : (L2 ++ joinB (B.take k)).length + 3 * (B[k]).length ≤ 100000000 := by rw [List.length_append]; omega
        by_cases hk0 : k = 0
        · have hbz : decide ((0 : Int) < (k : Int)) = false := dfalse (by omega)
          have hbz2 : decide (0 < k) = false := dfalse (by omega)
          have hj : (L2 ++ joinB (B.take k)) ++ toldB B[k] = L2 ++ joinB (B.take (k + 1)) := by
            subst hk0
            rw [joinB_one B hkb, List.take_zero, joinB, List.append_nil]
          generalize B[k] = x at *
          have hfp := fpv_any W4.ow hpc
          generalize L2 ++ joinB (B.take k) = o at *
          replace hfp := Lib.hid hfp
          replace hj := Lib.hid hj
          clear h5 hk0 hpc htl htl2 hml
          go_wp2_with fail
          refine hfp.out.mono ?_
          rintro e5 w5 ⟨v5, rfl, g4, g5, g6⟩
          have W5 := W4.next hvp hpw1 g4 g6 g5
          rw [hj.out] at W5
          clear hfp g4 g5 g6
          go_wp2_with fail
          exact ⟨⟨k + 1, by omega, by go_num, W5⟩, by simp [intOf] <;> omega⟩
        · have hbz : decide ((0 : Int) < (k : Int)) = true := dtrue (by omega)
          have hbz2 : decide (0 < k) = true := dtrue (by omega)
          have hsn := joinB_snoc B hkb (by omega)
          have hj : ((L2 ++ joinB (B.take k)) ++ [42]) ++ toldB B[k] = L2 ++ joinB (B.take (k + 1)) := by rw [hsn]; simp [List.append_assoc]
          have hsl := congrArg List.length hsn
          rw [List.length_append, List.length_append, List.length_singleton] at hsl
          have hpc2 : ((L2 ++ joinB (B.take k)) ++ [42]).length + 3 * (B[k]).length ≤ 100000000 := by rw [List.length_append, List.length_append, List.length_singleton]; omega
          have hb1 := Lib.hid (show (L2 ++ joinB (B.take k)).length + 1 ≤ 140737488355328 by rw [List.length_append]; omega)
          generalize B[k] = x at *
          generalize L2 ++ joinB (B.take k) = o at *
          obtain ⟨o2, ho2⟩ : ∃ o2, o2 = o ++ [42] := ⟨_, rfl⟩
          rw [← ho2] at hj hpc2
          replace hj := Lib.hid hj
          replace ho2 := Lib.hid ho2
          obtain ⟨A7, c7, rfl⟩ := W4.ow.shape
          rw [List.length_map] at W4 ⊢
          clear h5 hk0 hpc htl htl2 hml hsn hsl
          go_wp2_with ((with_reducible show wpList _ _ _ (⟨some 85, _, _, _, _, _⟩ :: _) _ _); refine wp_app1 (b := 42) tyB W4.ow rfl hb1.out rfl (.tmp 83) (.tmp 84) rfl rfl rfl ?_; intro v6 w6 k4 k5 k6; have W6 := W4.next hvp hpw1 k4 k5 k6; rw [← ho2.out] at k4 W6; have y6 := ext_cell (hmv W6.mod) h60; obtain ⟨A6, c6, rfl⟩ := k4.shape)
          rw [List.length_map] at W6
          refine (fpv_any W6.ow hpc2).mono ?_
          rintro e5 w5 ⟨v5, rfl, g4, g5, g6⟩
          have W5 := W6.next hvp hpw1 g4 g6 g5
          rw [hj.out] at W5
          clear g4 g5 g6
          go_wp2_with fail
          exact ⟨⟨k + 1, by omega, by go_num, W5⟩, by simp [intOf] <;> omega⟩
    have e4 : (kd == 4) = false := beq_eq_false_iff_ne.2 h4
    have hmid : midB kd T V B = [] := by
      unfold midB
      rw [if_neg h0, if_neg h1, if_neg h2, if_neg h3, if_neg h5, if_neg h6, if_neg h7, if_neg h4]
    replace hmid := Lib.hid hmid
    replace W2 := Lib.hid W2
    clear h0 h1 h2 h3 h5 h6 h7 h4 k1
    go_wp2_with fail
    go_meet
    rw [hmid.out, List.append_nil]
    exact W2.out
  case rest =>
    have W := hcut
    obtain ⟨L5, hL5⟩ : ∃ L5, L5 = l1 ++ midB kd T V B := ⟨_, rfl⟩
    rw [← hL5] at W
    have hRR : R = (L5 ++ K.flatMap (textN n)) ++ [41] := by rw [hR.out, hL5, hl1e.out]; simp [List.append_assoc]
    have hL5m : L5.length + (K.flatMap (textN n)).length + 1 ≤ 10000000 := by rw [hL5, List.length_append]; omega
    replace hRR := Lib.hid hRR
    clear hcut hR hL5 hl1e hl1m hln W2 k1 k2 k3 W1 hl1 p0 p1 p2 p3 p4 hS
    obtain ⟨A7, c7, rfl⟩ := W.ow.shape
    rw [List.length_map] at W ⊢
    obtain ⟨-, p0, p1, p2, p3, p4⟩ := W.bp.five
    go_wp2_with fail
    clear p0 p1 p2 p3 p4
    go_loopw [0, 93] (fun vo i wr => ∃ k : Nat, k ≤ q ∧ i = .int .i64 k ∧ WAt w1 wr p (.slice A0 l.length c0) vo (L5 ++ (K.take k).flatMap (textN n)) #[.int .i64 kd, sv T, sv V, .slice As m cs, .slice A q ca]) (fun _ i _ => q - (intOf i).toNat)
    case atStart => exact ⟨0, Nat.zero_le _, rfl, by simpa using W⟩
    case round =>
      clear W
      obtain ⟨k, hk, rfl, W4⟩ := hrel
      by_cases hlt : k < q
      case neg =>
        have hbl : decide ((k : Int) < (q : Int)) = false := dfalse (by omega)
        have hbn : decide (k < q) = false := dfalse (by omega)
        rw [List.take_of_length_le (by have := hq.out; omega)] at W4
        have hb1 := Lib.hid (show (L5 ++ K.flatMap (textN n)).length + 1 ≤ 140737488355328 by rw [List.length_append]; omega)
        generalize L5 ++ K.flatMap (textN n) = o at *
        obtain ⟨A8, c8, rfl⟩ := W4.ow.shape
        rw [List.length_map] at W4 ⊢
        go_wp2_with ((with_reducible show wpList _ _ _ (⟨some 103, _, _, _, _, _⟩ :: _) _ _); refine wp_app1 (b := 41) tyB W4.ow rfl hb1.out rfl (.tmp 101) (.tmp 102) rfl rfl rfl ?_; intro v6 w6 k4 k5 k6)
        have W6 := W4.next hvp hpw1 k4 k5 k6
        rw [← hRR.out] at W6
        go_ret
        exact ⟨_, rfl, W6.ow, hfin W6⟩
      have hbl : decide ((k : Int) < (q : Int)) = true := dtrue (by omega)
      have hbn : decide (k < q) = true := dtrue (by omega)
      have hi0 : (0 : Int) ≤ (k : Int) := by omega
      have hi1 : (k : Int) < (q : Int) := by omega
      have hkb : k < K.length := by have := hq.out; omega
      obtain ⟨ag, ys, yk, e2, a0, a1, a2, a3, a4, h7⟩ := hop k hkb
      subst e2
      obtain ⟨⟨Y1, Y2, Y3, rfl⟩, Z1, Z2, Z3, rfl⟩ := h7.shape
      have y2 := hmv W4.mod
      replace a0 := ext_cell y2 a0
      replace a1 := ext_cell y2 a1
      replace a2 := ext_cell y2 a2
      replace a3 := ext_cell y2 a3
      replace a4 := ext_cell y2 a4
      have hsn := kids_snoc n K hkb
      have htl := kids_take_len n K (k + 1)
      rw [hsn, List.length_append] at htl
      have hj : (L5 ++ (K.take k).flatMap (textN n)) ++ textN n K[k] = L5 ++ (K.take (k + 1)).flatMap (textN n) := by rw [hsn, List.append_assoc]
      have hwl : (L5 ++ (K.take k).flatMap (textN n)).length + (textN n K[k]).length ≤ 10000000 := by rw [List.length_append]; omega
      generalize K[k] = x at *
      generalize L5 ++ (K.take k).flatMap (textN n) = o at *
      obtain ⟨w5, hw5⟩ : ∃ y, y = wr.alloc (.cells #[.int .i64 x.kind, sv x.typ, sv x.val, .slice Y1 Y2 Y3, .slice Z1 Z2 Z3] 25) := ⟨_, rfl⟩
      obtain ⟨g5, hg5⟩ : ∃ y, y = wr.heap.size := ⟨_, rfl⟩
      have x5 : Ext wr w5 := by rw [hw5]; exact (Mod.refl _ wr).alloc _
      have B5 : Blk w5 g5 25 #[.int .i64 x.kind, sv x.typ, sv x.val, .slice Y1 Y2 Y3, .slice Z1 Z2 Z3] := by rw [hw5, hg5]; exact Blk.new wr _ _
      obtain ⟨-, b0, b1, b2, b3, b4⟩ := B5.five
      have W5 := W4.ext x5
      have hfo : Fresh w0.heap.size u0 := W4.nx.fresh hfr (by have := (hmv (Mod.refl _ w1)).size; omega)
      have hc5 := ih h7 (ext_trans y2 x5) W5.ow hfo hwl
      obtain ⟨A8, c8, rfl⟩ := W4.ow.shape
      rw [List.length_map] at W5 hc5 W4 hfo ⊢
      replace hw5 := Lib.hid hw5
      replace hg5 := Lib.hid hg5
      replace hj := Lib.hid hj
      replace hc5 := Lib.hid hc5
      clear hsn htl hwl h7 hkb B5 W4
      go_upto_region 29 with fail
      rw [← hw5.out, ← hg5.out]
      clear a0 a1 a2 a3 a4
      go_wp2_with fail
      refine hc5.out.mono ?_
      rintro e6 w6 ⟨v6, rfl, k4, k5, k6⟩
      have W6 := W5.next hvp hpw1 k4 k6 k5
      rw [hj.out] at W6
      clear hc5 b0 b1 b2 b3 b4 W5 k4 k5 k6
      go_wp2_with fail
      exact ⟨⟨k + 1, by omega, by go_num, W6⟩, by simp [intOf] <;> omega⟩
theorem fwrite_any : ∀ n, WIH n
  | 0 => fun h => h.elim
  | n + 1 => fwrite_step (fwrite_any n)
end Go.Proofs.Ytekocbphdckmkaa
