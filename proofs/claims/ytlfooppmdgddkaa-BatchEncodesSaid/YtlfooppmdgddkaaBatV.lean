/- append(v, ys...) of records, at a step of a region that draws; over any program. -/
import Derived.Test.YtlfooppmdgddkaaRecB
import Derived.Deep.DeepCutAuto
import Derived.Deep.RegionHeld3
import Derived.Deep.CutBlock
import Derived.Test.YtlfooppmdgddkaaBatP
import Derived.Test.YtlfooppmdgddkaaBatB
namespace Go.Proofs.Ytlfooppmdgddkaa
open Go.RowKit
set_option maxRecDepth 100000

section
variable {P : Program} {w : World} {t e : TypeId} {z : Value} {k bytes : Nat} {ops : Array Oper} {o : Oper} {a : Act} {Q : Exit → Act → World → Prop} {α : Type} {f : α → List Value} {S : Nat → Prop}
theorem run_appRs (hT : SliceTyK P t e z k bytes) (ty : TypeId) {v y : Value} {L M : List α} (hown : OwnR f k w e v L) (hr : Rc f k w S y M) (h1 : ∀ x ∈ M, ∀ u ∈ f x, u.oneCell' = true) (hn : (L.length + M.length) * bytes ≤ 140737488355328) :
    ∃ v' w', (Builtin.append_ #[t, t] ty #[v, y]).run P w = .ok v' w' ∧ OwnR f k w' e v' (L ++ M) ∧ Mod (own v) w w' ∧ Next w.heap.size v v' := by
  obtain ⟨v', w', hrun, h2, h3, h4⟩ := run_appk hT ty hown hr (fun u hu => by obtain ⟨x, hm, hx⟩ := List.mem_flatMap.1 hu; exact h1 x hm u hx) hn
  exact ⟨v', w', hrun, by unfold OwnR; rw [List.length_append, List.flatMap_append]; exact h2, h3, h4⟩
/-- append(v, ys...). -/
theorem wp_appRm {rest : List Oper} (hT : SliceTyK P t e z k bytes) {v y : Value} {L M : List α} (hown : OwnR f k w e v L) (hr : Rc f k w S y M) (h1 : ∀ x ∈ M, ∀ u ∈ f x, u.oneCell' = true) (hn : (L.length + M.length) * bytes ≤ 140737488355328)
    (hgd : o.guard = none) (s x : Operand) (ho : o.op = .call { callee := .builtin .append, args := #[s, x], argTypes := #[t, t] }) (hs : a.eval s = v) (hx : a.eval x = y)
    (h : ∀ v' w', OwnR f k w' e v' (L ++ M) → Mod (own v) w w' → Next w.heap.size v v' → wpList P ops Q rest (a.put o.dst v') w') : wpList P ops Q (o :: rest) a w :=
  wp_appk hT hown hr (fun u hu => by obtain ⟨x, hm, hx⟩ := List.mem_flatMap.1 hu; exact h1 x hm u hx) hgd s x ho hs hx hn fun v' w' k1 k2 k3 => h v' w' (by unfold OwnR; rw [List.length_append, List.flatMap_append]; exact k1) k2 k3
/-- append(v, ys...) at a step of a region that draws. -/
theorem step_appRs {K : Act → World → Prop} {E : Prop} (d : Tmp) (hT : SliceTyK P t e z k bytes) {v y : Value} {L M : List α} (hown : OwnR f k w e v L) (hr : Rc f k w S y M) (h1 : ∀ x ∈ M, ∀ u ∈ f x, u.oneCell' = true) (hn : (L.length + M.length) * bytes ≤ 140737488355328)
    (hgd : o.guard = none) (hd : o.dst = some d) (s yy : Operand) (ho : o.op = .call { callee := .builtin .append, args := #[s, yy], argTypes := #[t, t] }) (hs : a.eval s = v) (hy : a.eval yy = y)
    (h : ∀ v' w', OwnR f k w' e v' (L ++ M) → Mod (own v) w w' → Next w.heap.size v v' → K (a.put o.dst v') w') : if Region.wanted o (yielded ops a.tmps) = true then Oper.wp P o a w K Q else E := by
  have hw : Region.wanted o (yielded ops a.tmps) = true := by simp [Region.wanted, hgd]
  rw [if_pos hw]
  obtain ⟨v', w', hrun, h2, h3, h4⟩ := run_appRs (P := P) hT o.type hown hr h1 hn
  unfold Oper.wp execOp
  simp only [ho, resolve, invoke, builtin, Sem.run_bind, Sem.run_pure, Result.andThen_ok, List.map_toArray, List.map_cons, List.map_nil, hs, hy, hrun]
  simp only [Oper.upon, hd]
  have := h v' w' h2 h3 h4
  rw [hd] at this
  exact this
end
theorem Rc.lit1 {α : Type} {f : α → List Value} {k : Nat} (hf : ∀ x, (f x).length = k) (w : World) (e : TypeId) (x : α) : Rc f k (w.alloc (.cells (f x).toArray e)) (fun b => b = w.heap.size) (.slice (some ⟨w.heap.size, 0, none⟩) 1 1) [x] := by
  have := SlK.one w e (f x) k (hf x)
  unfold Rc
  simpa using this
theorem OwnR.empty {α : Type} (f : α → List Value) (k : Nat) (w : World) (e : TypeId) : OwnR f k (w.alloc (.cells #[] e)) e (.slice (some ⟨w.heap.size, 0, none⟩) 0 0) [] :=
  ⟨by simp, .inr ⟨w.heap.size, 0, #[], rfl, Nat.zero_le _, heap_alloc_new w _, Nat.le_refl _, Nat.zero_le _, by simp, by simp⟩⟩
theorem fresh_new (w : World) (n c : Nat) : Fresh w.heap.size (.slice (some ⟨w.heap.size, 0, none⟩) n c) := fun k hk => by have : w.heap.size = k := Option.some.inj hk; omega

end Go.Proofs.Ytlfooppmdgddkaa
namespace Go.Proofs.Ytlfooppmdgddkaa
open Go.RowKit
set_option maxRecDepth 100000

theorem takeWhile_at {α : Type} (p : α → Bool) : ∀ (L : List α), ∃ n, n ≤ L.length ∧ L.takeWhile p = L.take n ∧ L.dropWhile p = L.drop n ∧ (∀ j (hj : j < L.length), j < n → p L[j] = true) ∧ ∀ hn : n < L.length, p L[n] = false
  | [] => ⟨0, by simp, by simp, by simp, fun j hj => by simp at hj, fun hn => by simp at hn⟩
  | a :: L => by
    by_cases h : p a = true
    · obtain ⟨n, h1, h2, h3, h4, h5⟩ := takeWhile_at p L
      refine ⟨n + 1, by simpa using h1, by rw [List.takeWhile_cons, if_pos h, h2]; rfl, by rw [List.dropWhile_cons, if_pos h, h3]; rfl, fun j hj hjn => ?_, fun hn => ?_⟩
      · match j, hj, hjn with
        | 0, _, _ => exact h
        | j + 1, hj, hjn => exact h4 j (by simpa using hj) (by omega)
      · exact h5 (by simpa using hn)
    · refine ⟨0, by simp, by rw [List.takeWhile_cons, if_neg h]; rfl, by rw [List.dropWhile_cons, if_neg h]; rfl, fun j _ hj => by omega, fun _ => by simpa using h⟩
/-- Where a row's cell comes among the cells of those behind it. -/
theorem comes (s : Int) (L : List Ro) (x : Ro) : ∃ n, n ≤ (cellsB s L).length ∧ (∀ j (hj : j < (cellsB s L).length), j < n → Op.bytesLess (cellsB s L)[j].key x.key = true) ∧ (∀ hn : n < (cellsB s L).length, Op.bytesLess (cellsB s L)[n].key x.key = false) ∧
    ((∃ hn : n < (cellsB s L).length, (cellsB s L)[n].key = x.key) → cellsB s (x :: L) = cellsB s L) ∧
    ((¬ ∃ hn : n < (cellsB s L).length, (cellsB s L)[n].key = x.key) → cellsB s (x :: L) = ((cellsB s L).take n ++ [cellR x s]) ++ (cellsB s L).drop n) := by
  obtain ⟨n, h1, h2, h3, h4, h5⟩ := takeWhile_at (fun c => lessC c (cellR x s)) (cellsB s L)
  have hless : ∀ c ∈ cellsB s L, lessC c (cellR x s) = Op.bytesLess c.key x.key := by
    intro c hc
    unfold lessC
    by_cases hk : c.key = (cellR x s).key
    · rw [if_pos hk]
      have e1 : (cellR x s).seq = c.seq := (cellsB_seq hc).symm
      have e2 : c.key = x.key := hk
      rw [e1, e2, less_self]
      simp
    · rw [if_neg hk]; rfl
  have hkey : hasK L x.key = true ↔ ∃ hn : n < (cellsB s L).length, (cellsB s L)[n].key = x.key := by
    constructor
    · intro h
      obtain ⟨r, hr, e⟩ := hasK_iff.1 h
      obtain ⟨i, hi, rfl⟩ := List.mem_iff_getElem.1 hr
      obtain ⟨c, hc, e2⟩ := cellsB_has (s := s) hi
      obtain ⟨j, hj, rfl⟩ := List.mem_iff_getElem.1 hc
      have hnj : n ≤ j := by
        rcases Nat.lt_or_ge j n with h6 | h6
        · have h7 := h4 j hj h6
          rw [hless _ (List.getElem_mem _), e2, e, less_self] at h7
          cases h7
        · exact h6
      refine ⟨by omega, ?_⟩
      rcases Nat.lt_or_ge n j with h6 | h6
      · have h7 := cellsB_rise (s := s) (L := L) h6 hj
        have h8 := h5 (by omega)
        rw [hless _ (List.getElem_mem _)] at h8
        rw [e2, e] at h7
        rw [h7] at h8
        cases h8
      · obtain rfl : n = j := by omega
        exact e2.trans e
    · rintro ⟨hn, e⟩
      obtain ⟨r, hr, e2⟩ := cellsB_key (s := s) (List.getElem_mem hn)
      exact hasK_iff.2 ⟨r, hr, e2.trans e⟩
  refine ⟨n, h1, fun j hj hjn => ?_, fun hn => ?_, fun h => ?_, fun h => ?_⟩
  · have := h4 j hj hjn
    rwa [hless _ (List.getElem_mem _)] at this
  · have := h5 hn
    rwa [hless _ (List.getElem_mem _)] at this
  · show (if hasK L x.key = true then cellsB s L else insC (cellsB s L) (cellR x s)) = _
    rw [if_pos (hkey.2 h)]
  · show (if hasK L x.key = true then cellsB s L else insC (cellsB s L) (cellR x s)) = _
    rw [if_neg (fun h2 => h (hkey.1 h2))]
    unfold insC fromC
    rw [h2, h3, List.append_assoc]
    rfl
end Go.Proofs.Ytlfooppmdgddkaa
namespace Go.Proofs.Ytlfooppmdgddkaa
open Go.RowKit
set_option maxRecDepth 100000

theorem fresh_at {B g n c : Nat} (h : B ≤ g) : Fresh B (.slice (some ⟨g, 0, none⟩) n c) := fun k hk => by have : g = k := Option.some.inj hk; omega
set_option maxHeartbeats 64000000 in
theorem rbcells_any {w : World} {S : Nat → Prop} {v : Value} {L : List Ro} {s : Int} (h : Rs w S v L) (hl : L.length ≤ 100000) :
    Calls Try.prog 56 #[v, .int .i64 s] w fun e w' => ∃ v', e = .returned v' ∧ OwnC w' v' (cellsB s L) ∧ Fresh w.heap.size v' ∧ Ext w w' := by
  obtain ⟨A0, c0, rfl, h1, h2, h3, h4⟩ := h.open_ rol_len
  clear h
  have hcell := fun (wx : World) (r : Ro) => rbcell_any (w := wx) r s
  go_enter Try.func56, Try.ntmps56
  go_wp2_with fail
  go_loopw [5, 6] (fun t i wr => ∃ m : Nat, m ≤ L.length ∧ i = .int .i64 ((m : Int) - 1) ∧ OwnC wr t (cellsB s (L.drop m)) ∧ Fresh w.heap.size t ∧ Ext w wr) (fun _ i _ => (intOf i + 1).toNat)
  case atStart => exact ⟨L.length, Nat.le_refl _, rfl, by rw [List.drop_length]; exact OwnR.nil _ _ _ _, fresh_nil _ _ _, Mod.refl _ _⟩
  case round =>
    obtain ⟨m, hm, rfl, o1, f1, y1⟩ := hrel
    by_cases hm0 : m = 0
    case pos =>
      subst hm0
      rw [List.drop_zero] at o1
      go_wp2_with fail
      go_ret
      exact ⟨_, rfl, o1, f1, y1⟩
    obtain ⟨k, rfl⟩ : ∃ k, m = k + 1 := ⟨m - 1, by omega⟩
    have hk1 : ((k + 1 : Nat) : Int) - 1 = (k : Int) := by omega
    have hk0 : decide ((0 : Int) ≤ (k : Int)) = true := dtrue (by omega)
    have hkl : k < L.length := by omega
    rw [hk1]
    replace hk1 := Lib.hid hk1
    obtain ⟨n, hn1, hn2, hn3, hn4, hn5⟩ := comes s (L.drop (k + 1)) L[k]
    have hdr : L[k] :: L.drop (k + 1) = L.drop k := (List.drop_eq_getElem_cons hkl).symm
    rw [hdr] at hn4 hn5
    have hCl : (cellsB s (L.drop (k + 1))).length ≤ 100000 := Nat.le_trans (cellsB_len s _) (by rw [List.length_drop]; omega)
    obtain ⟨C2, hC2⟩ : ∃ C2, C2 = cellsB s (L.drop k) := ⟨_, rfl⟩
    rw [← hC2] at hn4 hn5
    replace hC2 := Lib.hid hC2
    generalize cellsB s (L.drop (k + 1)) = C at *
    have hrow := fun {wx : World} (hx : Ext w wx) => Rs.at_ (h4.ext hx) hkl
    obtain ⟨t, ht⟩ : ∃ t, t = u5 := ⟨_, rfl⟩
    subst ht
    obtain ⟨A, cp, hv, g1, g2, g3, g4⟩ := o1.rc.open_ cel_len
    subst hv
    obtain ⟨ad, hA, -⟩ := hrow y1
    subst hA
    replace hrow : ∀ {wx : World}, Ext w wx → wx.cell? (ad.add (k * 3)) = some (sv L[k].key) ∧ wx.cell? ⟨(ad.add (k * 3)).block, (ad.add (k * 3)).off + 1, none⟩ = some (sv L[k].val) ∧ wx.cell? ⟨(ad.add (k * 3)).block, (ad.add (k * 3)).off + 2, none⟩ = some (.bool L[k].del) := fun hx => by
      obtain ⟨ad', hA, -, d⟩ := hrow hx
      cases hA
      exact d
    have hi0 : (0 : Int) ≤ (k : Int) := by omega
    have hi1 : (k : Int) < (L.length : Int) := by omega
    clear hdr
    generalize L[k] = x at *
    replace hn4 := Lib.hid hn4
    replace hn5 := Lib.hid hn5
    replace hn2 := Lib.hid hn2
    replace hn3 := Lib.hid hn3
    obtain ⟨wo, hwo⟩ : ∃ x, x = wr := ⟨_, rfl⟩
    subst hwo
    go_wp2_with fail
    go_loopw [7] (fun i wx => ∃ a : Nat, a ≤ n ∧ i = .int .i64 (a : Nat) ∧ Ext wo wx) (fun i _ => n - (intOf i).toNat)
    case atStart => exact ⟨0, Nat.zero_le _, rfl, Mod.refl _ _⟩
    case round =>
      obtain ⟨a, ha, rfl, xa⟩ := hrel
      have ya := ext_trans y1 xa
      obtain ⟨c0, -, -⟩ := hrow ya
      have oa := o1.ext xa
      have rda := fun {j : Nat} (hj : j < C.length) => Cs.at_ (g4.ext xa) hj
      have hq0 : (0 : Int) ≤ (a : Int) := by omega
      by_cases han : a < n
      case pos =>
        have hac : a < C.length := by omega
        have hbl : decide ((a : Int) < (C.length : Int)) = true := dtrue (by omega)
        have hq1 : (a : Int) < (C.length : Int) := by omega
        obtain ⟨bd, hB, -, d0, -, -, -⟩ := rda hac
        subst hB
        have hls := hn2.out a hac han
        have hdw : ∀ m, Ext wo (wr.drewN m) := fun m => xa.drewN m
        clear rda
        generalize C[a] = z at *
        go_wp2_with fail
        go_quiet (fail)
        go_wp2_with fail
        exact ⟨⟨a + 1, by omega, by go_num, hdw _⟩, by simp [intOf] <;> omega⟩
      obtain rfl : a = n := by omega
      by_cases hac : a < C.length
      case neg =>
        have hbl : decide ((a : Int) < (C.length : Int)) = false := dfalse (by omega)
        clear rda
        have hdw : ∀ m, Ext wo (wr.drewN m) := fun m => xa.drewN m
        go_wp2_with fail
        go_quiet (fail)
        go_wp2_with fail
        have y7 := hdw nq
        generalize wr.drewN nq = w7 at *
        go_quiet (fail)
        have y3 : Ext wo (w7.drewN nq) := y7.drewN nq
        generalize w7.drewN nq = w3 at *
        have hno : ¬ ∃ hn : a < C.length, C[a].key = x.key := fun ⟨h, _⟩ => hac h
        have hins := Lib.hid (hn5.out hno)
        clear hno hn4 hn5 hn2 hn3 hdw c0 oa ya xa y7
        obtain ⟨c, hc⟩ : ∃ c, c = cellR x s := ⟨_, rfl⟩
        have hcl := fun wx => hcell wx x
        rw [← hc] at hins hcl
        replace hc := Lib.hid hc
        have o3 := o1.ext y3
        have z3 := ext_trans y1 y3
        have rc3 := o3.rc
        have hcc : ∀ {wx : World}, Ext w3 wx → wx.cell? (ad.add (k * 3)) = some (sv x.key) ∧ wx.cell? ⟨(ad.add (k * 3)).block, (ad.add (k * 3)).off + 1, none⟩ = some (sv x.val) ∧ wx.cell? ⟨(ad.add (k * 3)).block, (ad.add (k * 3)).off + 2, none⟩ = some (.bool x.del) := fun hx => hrow (ext_trans z3 hx)
        have hj0 : (0 : Int) ≤ (a : Int) := by omega
        have hj1 : (a : Int) ≤ (cp : Int) := by omega
        have hj2 : (a : Int) ≤ (C.length : Int) := by omega
        have rT : Rc cel 4 w3 (own (.slice A C.length cp)) (.slice A a cp) (C.take a) := Rc.begin cel_len rc3 (by omega)
        have hz3 := Lib.hid z3.size
        have hal : a ≤ C.length := by omega
        clear hrow hcell o3
        go_upto_region 9 with fail
        go_cut [0, 1, 2, 3, 4, 5, 6, 7, 8, 9, 10, 11] (fun s0 s1 s2 s3 s4 s5 s6 s7 s8 s9 s10 s11 wx => s0 = .slice (some ad) L.length c0 ∧ s1 = .int .i64 s ∧ s2 = undef ∧ s3 = undef ∧ s4 = .slice none 0 0 ∧ s5 = .slice A C.length cp ∧ s6 = .int .i64 (k : Nat) ∧ s7 = .int .i64 (a : Nat) ∧ s9 = .slice (some ad) L.length c0 ∧ s10 = .int .i64 (L.length : Nat) ∧ s11 = .int .i64 ((L.length : Int) - 1) ∧ OwnC wx s8 (([] ++ C.take a) ++ [c]) ∧ Fresh w3.heap.size s8 ∧ Ext w3 wx)
        case first =>
          obtain ⟨d0, d1, d2⟩ := hcc (Mod.refl _ w3)
          have q0 : Ext w3 w3.drew := (Mod.refl _ w3).drew
          have oE := OwnR.empty cel 4 w3.drew 23
          have fE : Fresh w3.heap.size (.slice (some ⟨w3.drew.heap.size, 0, none⟩) 0 0) := fresh_at (Nat.le_refl _)
          have qE : Ext w3 (w3.drew.alloc (.cells #[] 23)) := q0.alloc _
          have rE := rT.ext qE
          have okA : ∀ x ∈ [c], ∀ u ∈ cel x, u.oneCell' = true := fun x _ => cel_ok x
          have okC : ∀ x ∈ C.take a, ∀ u ∈ cel x, u.oneCell' = true := fun x _ => cel_ok x
          have n1 : (([] : List Ce).length + (C.take a).length) * 48 ≤ 140737488355328 := by rw [List.length_take]; simp only [List.length_nil]; omega
          have n2 : ((([] : List Ce) ++ C.take a).length + [c].length) * 48 ≤ 140737488355328 := by rw [List.nil_append, List.length_take]; simp only [List.length_cons, List.length_nil]; omega
          replace okC := Lib.hid okC
          replace okA := Lib.hid okA
          replace n1 := Lib.hid n1
          replace n2 := Lib.hid n2
          clear hins rc3 o1
          go_region_held3 (fun wx => wx.cell? (ad.add (k * 3)) = some (sv x.key) ∧ wx.cell? ⟨(ad.add (k * 3)).block, (ad.add (k * 3)).off + 1, none⟩ = some (sv x.val) ∧ wx.cell? ⟨(ad.add (k * 3)).block, (ad.add (k * 3)).off + 2, none⟩ = some (.bool x.del)) (first | exact hcc q0 | exact hcc (q0.alloc _) | exact hcc q1 | exact hcc (q1.alloc _) | exact hcc ((q1.alloc _).alloc _) | exact hcc q2 | exact hcc (q2.alloc _) | exact hcc q3 | exact hcc (q3.alloc _) | exact hcc q4) (first
            | (go_at_call 83; (with_reducible refine (hcl w3.drew).mono ?_); rintro e wc ⟨rfl, xc⟩; have q1 := ext_trans q0 xc; have rc1 := rT.ext q1; have o1E := OwnR.empty cel 4 wc 23; have f1E : Fresh w3.heap.size (.slice (some ⟨wc.heap.size, 0, none⟩) 0 0) := fresh_at q1.size; have o1EX := o1E.alloc (.cells #[sv c.key, sv c.val, .bool c.del, .int .i64 c.seq] 23); have l1X : Rc cel 4 (wc.alloc (.cells #[sv c.key, sv c.val, .bool c.del, .int .i64 c.seq] 23)) (fun b => b = wc.heap.size) (.slice (some ⟨wc.heap.size, 0, none⟩) 1 1) [c] := Rc.lit1 cel_len wc 23 c; have l1EX0 := Rc.lit1 cel_len (wc.alloc (.cells #[] 23)) 23 c; have l1EX : Rc cel 4 ((wc.alloc (.cells #[] 23)).alloc (.cells #[sv c.key, sv c.val, .bool c.del, .int .i64 c.seq] 23)) (fun b => b = wc.heap.size + 1) (.slice (some ⟨wc.heap.size + 1, 0, none⟩) 1 1) [c] := (by have hs : (wc.alloc (.cells #[] 23)).heap.size = wc.heap.size + 1 := (by simp); rw [hs] at l1EX0; exact l1EX0); have o1XE0 := OwnR.empty cel 4 (wc.alloc (.cells #[sv c.key, sv c.val, .bool c.del, .int .i64 c.seq] 23)) 23; have o1XE : OwnR cel 4 ((wc.alloc (.cells #[sv c.key, sv c.val, .bool c.del, .int .i64 c.seq] 23)).alloc (.cells #[] 23)) 23 (.slice (some ⟨wc.heap.size + 1, 0, none⟩) 0 0) [] := (by have hs : (wc.alloc (.cells #[sv c.key, sv c.val, .bool c.del, .int .i64 c.seq] 23)).heap.size = wc.heap.size + 1 := (by simp); rw [hs] at o1XE0; exact o1XE0); have f1XE : Fresh w3.heap.size (.slice (some ⟨wc.heap.size + 1, 0, none⟩) 0 0) := fresh_at (by have := q1.size; omega); clear l1EX0 o1XE0)
            | (go_at_call 83; (with_reducible refine (hcl (w3.drew.alloc (.cells #[] 23))).mono ?_); rintro e we ⟨rfl, xe⟩; have q1 := ext_trans qE xe; have rc1 := rT.ext q1; have o2E := oE.ext xe; have o2EX := o2E.alloc (.cells #[sv c.key, sv c.val, .bool c.del, .int .i64 c.seq] 23); have l2X : Rc cel 4 (we.alloc (.cells #[sv c.key, sv c.val, .bool c.del, .int .i64 c.seq] 23)) (fun b => b = we.heap.size) (.slice (some ⟨we.heap.size, 0, none⟩) 1 1) [c] := Rc.lit1 cel_len we 23 c)
            | (go_at_call 83; (with_reducible refine (hcl wa).mono ?_); rintro e wd ⟨rfl, xd⟩; have q2 := ext_trans q1 xd; have o4A := ka1.ext xd; have o4AX := o4A.alloc (.cells #[sv c.key, sv c.val, .bool c.del, .int .i64 c.seq] 23); have l4X : Rc cel 4 (wd.alloc (.cells #[sv c.key, sv c.val, .bool c.del, .int .i64 c.seq] 23)) (fun b => b = wd.heap.size) (.slice (some ⟨wd.heap.size, 0, none⟩) 1 1) [c] := Rc.lit1 cel_len wd 23 c)
            | (refine step_appRs 56 tyC oE rE okC.out n1.out rfl rfl (.tmp 52) (.tmp 55) rfl rfl rfl ?_; intro va wa ka1 ka2 ka3; have q1 := ext_app0 qE fE ka2; have ga := ka3.fresh fE qE.size)
            | (refine step_appRs 56 tyC o2E rc1 okC.out n1.out rfl rfl (.tmp 52) (.tmp 55) rfl rfl rfl ?_; intro vb wb kb1 kb2 kb3; have q2 := ext_app0 q1 fE kb2; have gb := kb3.fresh fE q1.size; have kbX := kb1.alloc (.cells #[sv c.key, sv c.val, .bool c.del, .int .i64 c.seq] 23); have lbX : Rc cel 4 (wb.alloc (.cells #[sv c.key, sv c.val, .bool c.del, .int .i64 c.seq] 23)) (fun b => b = wb.heap.size) (.slice (some ⟨wb.heap.size, 0, none⟩) 1 1) [c] := Rc.lit1 cel_len wb 23 c)
            | (refine step_appRs 56 tyC o2EX (rc1.ext ((Mod.refl _ we).alloc _)) okC.out n1.out rfl rfl (.tmp 52) (.tmp 55) rfl rfl rfl ?_; intro vc wf kc1 kc2 kc3; have q2 := ext_app0 (q1.alloc _) fE kc2; have gc := kc3.fresh fE (q1.alloc _).size; have lcX := l2X.mod kc2 (fun b _ hb hF => by have h1 : w3.drew.heap.size = b := Option.some.inj hF; have h2 := q1.size; have h3 := o2E.lt (b := w3.drew.heap.size) rfl; omega))
            | (refine step_appRs 56 tyC o1E (rc1.ext ((Mod.refl _ wc).alloc _)) okC.out n1.out rfl rfl (.tmp 52) (.tmp 55) rfl rfl rfl ?_; intro vg wg kg1 kg2 kg3; have q2 := ext_app0 (q1.alloc _) f1E kg2; have gg := kg3.fresh f1E (q1.alloc _).size; have kgX := kg1.alloc (.cells #[sv c.key, sv c.val, .bool c.del, .int .i64 c.seq] 23); have lgX : Rc cel 4 (wg.alloc (.cells #[sv c.key, sv c.val, .bool c.del, .int .i64 c.seq] 23)) (fun b => b = wg.heap.size) (.slice (some ⟨wg.heap.size, 0, none⟩) 1 1) [c] := Rc.lit1 cel_len wg 23 c)
            | (refine step_appRs 56 tyC o1EX (rc1.ext (((Mod.refl _ wc).alloc _).alloc _)) okC.out n1.out rfl rfl (.tmp 52) (.tmp 55) rfl rfl rfl ?_; intro vh wh kh1 kh2 kh3; have q2 := ext_app0 ((q1.alloc _).alloc _) f1E kh2; have gh := kh3.fresh f1E ((q1.alloc _).alloc _).size; have lhX := l1EX.mod kh2 (fun b _ hb hF => by have h1 : wc.heap.size = b := Option.some.inj hF; omega))
            | (refine step_appRs 56 tyC o1XE (rc1.ext (((Mod.refl _ wc).alloc _).alloc _)) okC.out n1.out rfl rfl (.tmp 52) (.tmp 55) rfl rfl rfl ?_; intro vi wi ki1 ki2 ki3; have q2 := ext_app0 ((q1.alloc _).alloc _) f1XE ki2; have gi := ki3.fresh f1XE ((q1.alloc _).alloc _).size; have liX := (l1X.ext ((Mod.refl _ (wc.alloc (.cells #[sv c.key, sv c.val, .bool c.del, .int .i64 c.seq] 23))).alloc (.cells #[] 23))).mod ki2 (fun b _ hb hF => by have h1 : wc.heap.size + 1 = b := Option.some.inj hF; omega))
            | (refine step_appRs 64 tyC o4AX l4X okA.out n2.out rfl rfl (.tmp 56) (.tmp 63) rfl rfl rfl ?_; intro vz wz kz1 kz2 kz3; have q4 := ext_app0 (q2.alloc _) ga kz2; have gz := kz3.fresh ga (q2.alloc _).size)
            | (refine step_appRs 64 tyC kbX lbX okA.out n2.out rfl rfl (.tmp 56) (.tmp 63) rfl rfl rfl ?_; intro vz wz kz1 kz2 kz3; have q4 := ext_app0 (q2.alloc _) gb kz2; have gz := kz3.fresh gb (q2.alloc _).size)
            | (refine step_appRs 64 tyC kc1 lcX okA.out n2.out rfl rfl (.tmp 56) (.tmp 63) rfl rfl rfl ?_; intro vz wz kz1 kz2 kz3; have q4 := ext_app0 q2 gc kz2; have gz := kz3.fresh gc q2.size)
            | (refine step_appRs 64 tyC kgX lgX okA.out n2.out rfl rfl (.tmp 56) (.tmp 63) rfl rfl rfl ?_; intro vz wz kz1 kz2 kz3; have q4 := ext_app0 (q2.alloc _) gg kz2; have gz := kz3.fresh gg (q2.alloc _).size)
            | (refine step_appRs 64 tyC kh1 lhX okA.out n2.out rfl rfl (.tmp 56) (.tmp 63) rfl rfl rfl ?_; intro vz wz kz1 kz2 kz3; have q4 := ext_app0 q2 gh kz2; have gz := kz3.fresh gh q2.size)
            | (refine step_appRs 64 tyC ki1 liX okA.out n2.out rfl rfl (.tmp 56) (.tmp 63) rfl rfl rfl ?_; intro vz wz kz1 kz2 kz3; have q4 := ext_app0 q2 gi kz2; have gz := kz3.fresh gi q2.size))
          all_goals go_wp2_with fail
          all_goals go_meet
          all_goals exact ⟨rfl, rfl, rfl, rfl, rfl, rfl, rfl, rfl, rfl, rfl, rfl, kz1, gz, q4⟩
        case rest =>
          obtain ⟨rfl, rfl, rfl, rfl, rfl, rfl, rfl, rfl, rfl, rfl, rfl, o6, f6, x6⟩ := hcut
          obtain ⟨w6, hw6⟩ : ∃ x, x = wc := ⟨_, rfl⟩
          subst hw6
          obtain ⟨s6, hs6⟩ : ∃ x, x = u8 := ⟨_, rfl⟩
          subst hs6
          have o3 := (o1.ext y3).ext x6
          have z6 := ext_trans z3 x6
          obtain ⟨Y, hY⟩ : ∃ Y, Y = ([] ++ C.take a) ++ [c] := ⟨_, rfl⟩
          rw [← hY] at o6
          have hYl : Y.length ≤ 100001 := by rw [hY]; simp; omega
          have hn9 : Hid ((Y.length + (C.drop a).length) * 48 ≤ 140737488355328) := Lib.hid (by rw [List.length_drop]; omega)
          have hins2 : Hid (C2 = Y ++ C.drop a) := Lib.hid (by rw [hins.out, hY]; simp)
          have f6' : Fresh w.heap.size s6 := fun b hb => by have := f6 b hb; have := hz3.out; omega
          have hfin : ∀ (v9 : Value) (w9 : World), OwnC w9 v9 (Y ++ C.drop a) → Mod (own s6) w6 w9 → Next w6.heap.size s6 v9 → Hid (OwnC w9 v9 (cellsB s (L.drop k)) ∧ Fresh w.heap.size v9 ∧ Ext w w9) := fun v9 w9 k1 k2 k3 => Lib.hid ⟨by rw [← hC2.out, hins2.out]; exact k1, k3.fresh f6' z6.size, z6.trans k2 (fun _ _ h => h) (fun b hb h => by have := f6' b h; omega)⟩
          clear hY hins hins2 hcl hcc rT rc3 o1 g4
          by_cases hck : cp = a
          case pos =>
            have rR : Rc cel 4 w6 (own (.slice A C.length cp)) (.slice A (C.length - a) 0) (C.drop a) := Rc.rest0 o3.rc hal hck
            have hck2 : (cp : Int) - (a : Int) = 0 := by omega
            have hlk : C.length - a = 0 := by omega
            cases A with
            | none =>
              have hc0 : cp = 0 := g3 rfl
              have ha0 : a = 0 := by omega
              have hl0 : C.length = 0 := by omega
              have hCn : C = [] := List.eq_nil_of_length_eq_zero hl0
              subst hc0
              subst ha0
              subst hCn
              go_wp2_with ((with_reducible show wpList _ _ _ (⟨some 69, _, _, _, _, _⟩ :: _) _ _); refine wp_appRm tyC o6 rR (fun x _ => cel_ok x) hn9.out rfl (.tmp 65) (.tmp 68) rfl rfl rfl ?_; intro v9 w9 k1 k2 k3; obtain ⟨r1, r2, r3⟩ := (hfin v9 w9 k1 k2 k3).out)
              exact ⟨⟨k, by omega, rfl, r1, r2, r3⟩, by simp [intOf] <;> omega⟩
            | some bd3 =>
              rw [hlk] at rR
              go_wp2_with ((with_reducible show wpList _ _ _ (⟨some 69, _, _, _, _, _⟩ :: _) _ _); refine wp_appRm tyC o6 rR (fun x _ => cel_ok x) hn9.out rfl (.tmp 65) (.tmp 68) rfl rfl rfl ?_; intro v9 w9 k1 k2 k3; obtain ⟨r1, r2, r3⟩ := (hfin v9 w9 k1 k2 k3).out)
              exact ⟨⟨k, by omega, rfl, r1, r2, r3⟩, by simp [intOf] <;> omega⟩
          obtain ⟨bd3, hA3⟩ : ∃ bd3, A = some bd3 := by
            cases A with
            | none => exact absurd (by have := g3 rfl; omega) hck
            | some bd3 => exact ⟨bd3, rfl⟩
          subst hA3
          have rR : Rc cel 4 w6 (own (.slice (some bd3) C.length cp)) (.slice ((some bd3).map (fun x => x.add (a * 4))) (C.length - a) (cp - a)) (C.drop a) := Rc.rest cel_len o3.rc hal
          go_wp2_with ((with_reducible show wpList _ _ _ (⟨some 69, _, _, _, _, _⟩ :: _) _ _); refine wp_appRm tyC o6 rR (fun x _ => cel_ok x) hn9.out rfl (.tmp 65) (.tmp 68) rfl rfl rfl ?_; intro v9 w9 k1 k2 k3; obtain ⟨r1, r2, r3⟩ := (hfin v9 w9 k1 k2 k3).out)
          exact ⟨⟨k, by omega, rfl, r1, r2, r3⟩, by simp [intOf] <;> omega⟩
      have hbl : decide ((a : Int) < (C.length : Int)) = true := dtrue (by omega)
      have hq1 : (a : Int) < (C.length : Int) := by omega
      obtain ⟨bd, hB, -, d0, -, -, -⟩ := rda hac
      subst hB
      have hls := hn3.out hac
      have hdw : ∀ m, Ext wo (wr.drewN m) := fun m => xa.drewN m
      have h45 : (C[a].key = x.key → Hid (C2 = C)) ∧ (C[a].key ≠ x.key → Hid (C2 = (C.take a ++ [cellR x s]) ++ C.drop a)) := ⟨fun h => Lib.hid (hn4.out ⟨hac, h⟩), fun h => Lib.hid (hn5.out (fun ⟨_, h2⟩ => h h2))⟩
      have rdb := fun {wx : World} (hx : Ext wo wx) => Cs.at_ (g4.ext hx) hac
      clear rda hn4 hn5 hn2 hn3
      obtain ⟨z, hz⟩ : ∃ z, z = C[a] := ⟨_, rfl⟩
      rw [← hz] at d0 hls h45
      rw [← hz] at rdb
      replace hz := Lib.hid hz
      go_wp2_with fail
      go_quiet (fail)
      go_wp2_with fail
      have y7 := hdw nq
      generalize wr.drewN nq = w7 at *
      obtain ⟨e0, -, -⟩ := hrow (ext_trans y1 y7)
      obtain ⟨bd', hB, -, f0, -, -, -⟩ := rdb y7
      cases hB
      clear c0 d0 hls hdw oa ya xa rdb
      cases hkk : (z.key == x.key)
      case true =>
        have hE := h45.1 (by rw [beq_iff_eq] at hkk; exact hkk)
        clear h45
        go_quiet (fail)
        go_wp2_with fail
        have y3 : Ext wo (w7.drewN nq) := y7.drewN nq
        exact ⟨⟨k, by omega, rfl, by rw [← hC2.out, hE.out]; exact o1.ext y3, f1, ext_trans y1 y3⟩, by simp [intOf] <;> omega⟩
      have hins := h45.2 (by rw [beq_eq_false_iff_ne] at hkk; exact hkk)
      clear h45
      go_quiet (fail)
      have y3 : Ext wo (w7.drewN nq) := y7.drewN nq
      generalize w7.drewN nq = w3 at *
      clear e0 f0 y7
      generalize (some bd : Option Addr) = A at *
      obtain ⟨c, hc⟩ : ∃ c, c = cellR x s := ⟨_, rfl⟩
      have hcl := fun wx => hcell wx x
      rw [← hc] at hins hcl
      replace hc := Lib.hid hc
      have o3 := o1.ext y3
      have z3 := ext_trans y1 y3
      have rc3 := o3.rc
      have hcc : ∀ {wx : World}, Ext w3 wx → wx.cell? (ad.add (k * 3)) = some (sv x.key) ∧ wx.cell? ⟨(ad.add (k * 3)).block, (ad.add (k * 3)).off + 1, none⟩ = some (sv x.val) ∧ wx.cell? ⟨(ad.add (k * 3)).block, (ad.add (k * 3)).off + 2, none⟩ = some (.bool x.del) := fun hx => hrow (ext_trans z3 hx)
      have hj0 : (0 : Int) ≤ (a : Int) := by omega
      have hj1 : (a : Int) ≤ (cp : Int) := by omega
      have hj2 : (a : Int) ≤ (C.length : Int) := by omega
      have rT : Rc cel 4 w3 (own (.slice A C.length cp)) (.slice A a cp) (C.take a) := Rc.begin cel_len rc3 (by omega)
      have hz3 := Lib.hid z3.size
      have hal : a ≤ C.length := by omega
      clear hrow hcell o3
      go_upto_region 9 with fail
      go_cut [0, 1, 2, 3, 4, 5, 6, 7, 8, 9, 10, 11] (fun s0 s1 s2 s3 s4 s5 s6 s7 s8 s9 s10 s11 wx => s0 = .slice (some ad) L.length c0 ∧ s1 = .int .i64 s ∧ s2 = undef ∧ s3 = undef ∧ s4 = .slice none 0 0 ∧ s5 = .slice A C.length cp ∧ s6 = .int .i64 (k : Nat) ∧ s7 = .int .i64 (a : Nat) ∧ s9 = .slice (some ad) L.length c0 ∧ s10 = .int .i64 (L.length : Nat) ∧ s11 = .int .i64 ((L.length : Int) - 1) ∧ OwnC wx s8 (([] ++ C.take a) ++ [c]) ∧ Fresh w3.heap.size s8 ∧ Ext w3 wx)
      case first =>
        obtain ⟨d0, d1, d2⟩ := hcc (Mod.refl _ w3)
        have q0 : Ext w3 w3.drew := (Mod.refl _ w3).drew
        have oE := OwnR.empty cel 4 w3.drew 23
        have fE : Fresh w3.heap.size (.slice (some ⟨w3.drew.heap.size, 0, none⟩) 0 0) := fresh_at (Nat.le_refl _)
        have qE : Ext w3 (w3.drew.alloc (.cells #[] 23)) := q0.alloc _
        have rE := rT.ext qE
        have okA : ∀ x ∈ [c], ∀ u ∈ cel x, u.oneCell' = true := fun x _ => cel_ok x
        have okC : ∀ x ∈ C.take a, ∀ u ∈ cel x, u.oneCell' = true := fun x _ => cel_ok x
        have n1 : (([] : List Ce).length + (C.take a).length) * 48 ≤ 140737488355328 := by rw [List.length_take]; simp only [List.length_nil]; omega
        have n2 : ((([] : List Ce) ++ C.take a).length + [c].length) * 48 ≤ 140737488355328 := by rw [List.nil_append, List.length_take]; simp only [List.length_cons, List.length_nil]; omega
        replace okC := Lib.hid okC
        replace okA := Lib.hid okA
        replace n1 := Lib.hid n1
        replace n2 := Lib.hid n2
        clear hins rc3 o1
        go_region_held3 (fun wx => wx.cell? (ad.add (k * 3)) = some (sv x.key) ∧ wx.cell? ⟨(ad.add (k * 3)).block, (ad.add (k * 3)).off + 1, none⟩ = some (sv x.val) ∧ wx.cell? ⟨(ad.add (k * 3)).block, (ad.add (k * 3)).off + 2, none⟩ = some (.bool x.del)) (first | exact hcc q0 | exact hcc (q0.alloc _) | exact hcc q1 | exact hcc (q1.alloc _) | exact hcc ((q1.alloc _).alloc _) | exact hcc q2 | exact hcc (q2.alloc _) | exact hcc q3 | exact hcc (q3.alloc _) | exact hcc q4) (first
          | (go_at_call 83; (with_reducible refine (hcl w3.drew).mono ?_); rintro e wc ⟨rfl, xc⟩; have q1 := ext_trans q0 xc; have rc1 := rT.ext q1; have o1E := OwnR.empty cel 4 wc 23; have f1E : Fresh w3.heap.size (.slice (some ⟨wc.heap.size, 0, none⟩) 0 0) := fresh_at q1.size; have o1EX := o1E.alloc (.cells #[sv c.key, sv c.val, .bool c.del, .int .i64 c.seq] 23); have l1X : Rc cel 4 (wc.alloc (.cells #[sv c.key, sv c.val, .bool c.del, .int .i64 c.seq] 23)) (fun b => b = wc.heap.size) (.slice (some ⟨wc.heap.size, 0, none⟩) 1 1) [c] := Rc.lit1 cel_len wc 23 c; have l1EX0 := Rc.lit1 cel_len (wc.alloc (.cells #[] 23)) 23 c; have l1EX : Rc cel 4 ((wc.alloc (.cells #[] 23)).alloc (.cells #[sv c.key, sv c.val, .bool c.del, .int .i64 c.seq] 23)) (fun b => b = wc.heap.size + 1) (.slice (some ⟨wc.heap.size + 1, 0, none⟩) 1 1) [c] := (by have hs : (wc.alloc (.cells #[] 23)).heap.size = wc.heap.size + 1 := (by simp); rw [hs] at l1EX0; exact l1EX0); have o1XE0 := OwnR.empty cel 4 (wc.alloc (.cells #[sv c.key, sv c.val, .bool c.del, .int .i64 c.seq] 23)) 23; have o1XE : OwnR cel 4 ((wc.alloc (.cells #[sv c.key, sv c.val, .bool c.del, .int .i64 c.seq] 23)).alloc (.cells #[] 23)) 23 (.slice (some ⟨wc.heap.size + 1, 0, none⟩) 0 0) [] := (by have hs : (wc.alloc (.cells #[sv c.key, sv c.val, .bool c.del, .int .i64 c.seq] 23)).heap.size = wc.heap.size + 1 := (by simp); rw [hs] at o1XE0; exact o1XE0); have f1XE : Fresh w3.heap.size (.slice (some ⟨wc.heap.size + 1, 0, none⟩) 0 0) := fresh_at (by have := q1.size; omega); clear l1EX0 o1XE0)
          | (go_at_call 83; (with_reducible refine (hcl (w3.drew.alloc (.cells #[] 23))).mono ?_); rintro e we ⟨rfl, xe⟩; have q1 := ext_trans qE xe; have rc1 := rT.ext q1; have o2E := oE.ext xe; have o2EX := o2E.alloc (.cells #[sv c.key, sv c.val, .bool c.del, .int .i64 c.seq] 23); have l2X : Rc cel 4 (we.alloc (.cells #[sv c.key, sv c.val, .bool c.del, .int .i64 c.seq] 23)) (fun b => b = we.heap.size) (.slice (some ⟨we.heap.size, 0, none⟩) 1 1) [c] := Rc.lit1 cel_len we 23 c)
          | (go_at_call 83; (with_reducible refine (hcl wa).mono ?_); rintro e wd ⟨rfl, xd⟩; have q2 := ext_trans q1 xd; have o4A := ka1.ext xd; have o4AX := o4A.alloc (.cells #[sv c.key, sv c.val, .bool c.del, .int .i64 c.seq] 23); have l4X : Rc cel 4 (wd.alloc (.cells #[sv c.key, sv c.val, .bool c.del, .int .i64 c.seq] 23)) (fun b => b = wd.heap.size) (.slice (some ⟨wd.heap.size, 0, none⟩) 1 1) [c] := Rc.lit1 cel_len wd 23 c)
          | (refine step_appRs 56 tyC oE rE okC.out n1.out rfl rfl (.tmp 52) (.tmp 55) rfl rfl rfl ?_; intro va wa ka1 ka2 ka3; have q1 := ext_app0 qE fE ka2; have ga := ka3.fresh fE qE.size)
          | (refine step_appRs 56 tyC o2E rc1 okC.out n1.out rfl rfl (.tmp 52) (.tmp 55) rfl rfl rfl ?_; intro vb wb kb1 kb2 kb3; have q2 := ext_app0 q1 fE kb2; have gb := kb3.fresh fE q1.size; have kbX := kb1.alloc (.cells #[sv c.key, sv c.val, .bool c.del, .int .i64 c.seq] 23); have lbX : Rc cel 4 (wb.alloc (.cells #[sv c.key, sv c.val, .bool c.del, .int .i64 c.seq] 23)) (fun b => b = wb.heap.size) (.slice (some ⟨wb.heap.size, 0, none⟩) 1 1) [c] := Rc.lit1 cel_len wb 23 c)
          | (refine step_appRs 56 tyC o2EX (rc1.ext ((Mod.refl _ we).alloc _)) okC.out n1.out rfl rfl (.tmp 52) (.tmp 55) rfl rfl rfl ?_; intro vc wf kc1 kc2 kc3; have q2 := ext_app0 (q1.alloc _) fE kc2; have gc := kc3.fresh fE (q1.alloc _).size; have lcX := l2X.mod kc2 (fun b _ hb hF => by have h1 : w3.drew.heap.size = b := Option.some.inj hF; have h2 := q1.size; have h3 := o2E.lt (b := w3.drew.heap.size) rfl; omega))
          | (refine step_appRs 56 tyC o1E (rc1.ext ((Mod.refl _ wc).alloc _)) okC.out n1.out rfl rfl (.tmp 52) (.tmp 55) rfl rfl rfl ?_; intro vg wg kg1 kg2 kg3; have q2 := ext_app0 (q1.alloc _) f1E kg2; have gg := kg3.fresh f1E (q1.alloc _).size; have kgX := kg1.alloc (.cells #[sv c.key, sv c.val, .bool c.del, .int .i64 c.seq] 23); have lgX : Rc cel 4 (wg.alloc (.cells #[sv c.key, sv c.val, .bool c.del, .int .i64 c.seq] 23)) (fun b => b = wg.heap.size) (.slice (some ⟨wg.heap.size, 0, none⟩) 1 1) [c] := Rc.lit1 cel_len wg 23 c)
          | (refine step_appRs 56 tyC o1EX (rc1.ext (((Mod.refl _ wc).alloc _).alloc _)) okC.out n1.out rfl rfl (.tmp 52) (.tmp 55) rfl rfl rfl ?_; intro vh wh kh1 kh2 kh3; have q2 := ext_app0 ((q1.alloc _).alloc _) f1E kh2; have gh := kh3.fresh f1E ((q1.alloc _).alloc _).size; have lhX := l1EX.mod kh2 (fun b _ hb hF => by have h1 : wc.heap.size = b := Option.some.inj hF; omega))
          | (refine step_appRs 56 tyC o1XE (rc1.ext (((Mod.refl _ wc).alloc _).alloc _)) okC.out n1.out rfl rfl (.tmp 52) (.tmp 55) rfl rfl rfl ?_; intro vi wi ki1 ki2 ki3; have q2 := ext_app0 ((q1.alloc _).alloc _) f1XE ki2; have gi := ki3.fresh f1XE ((q1.alloc _).alloc _).size; have liX := (l1X.ext ((Mod.refl _ (wc.alloc (.cells #[sv c.key, sv c.val, .bool c.del, .int .i64 c.seq] 23))).alloc (.cells #[] 23))).mod ki2 (fun b _ hb hF => by have h1 : wc.heap.size + 1 = b := Option.some.inj hF; omega))
          | (refine step_appRs 64 tyC o4AX l4X okA.out n2.out rfl rfl (.tmp 56) (.tmp 63) rfl rfl rfl ?_; intro vz wz kz1 kz2 kz3; have q4 := ext_app0 (q2.alloc _) ga kz2; have gz := kz3.fresh ga (q2.alloc _).size)
          | (refine step_appRs 64 tyC kbX lbX okA.out n2.out rfl rfl (.tmp 56) (.tmp 63) rfl rfl rfl ?_; intro vz wz kz1 kz2 kz3; have q4 := ext_app0 (q2.alloc _) gb kz2; have gz := kz3.fresh gb (q2.alloc _).size)
          | (refine step_appRs 64 tyC kc1 lcX okA.out n2.out rfl rfl (.tmp 56) (.tmp 63) rfl rfl rfl ?_; intro vz wz kz1 kz2 kz3; have q4 := ext_app0 q2 gc kz2; have gz := kz3.fresh gc q2.size)
          | (refine step_appRs 64 tyC kgX lgX okA.out n2.out rfl rfl (.tmp 56) (.tmp 63) rfl rfl rfl ?_; intro vz wz kz1 kz2 kz3; have q4 := ext_app0 (q2.alloc _) gg kz2; have gz := kz3.fresh gg (q2.alloc _).size)
          | (refine step_appRs 64 tyC kh1 lhX okA.out n2.out rfl rfl (.tmp 56) (.tmp 63) rfl rfl rfl ?_; intro vz wz kz1 kz2 kz3; have q4 := ext_app0 q2 gh kz2; have gz := kz3.fresh gh q2.size)
          | (refine step_appRs 64 tyC ki1 liX okA.out n2.out rfl rfl (.tmp 56) (.tmp 63) rfl rfl rfl ?_; intro vz wz kz1 kz2 kz3; have q4 := ext_app0 q2 gi kz2; have gz := kz3.fresh gi q2.size))
        all_goals go_wp2_with fail
        all_goals go_meet
        all_goals exact ⟨rfl, rfl, rfl, rfl, rfl, rfl, rfl, rfl, rfl, rfl, rfl, kz1, gz, q4⟩
      case rest =>
        obtain ⟨rfl, rfl, rfl, rfl, rfl, rfl, rfl, rfl, rfl, rfl, rfl, o6, f6, x6⟩ := hcut
        obtain ⟨w6, hw6⟩ : ∃ x, x = wc := ⟨_, rfl⟩
        subst hw6
        obtain ⟨s6, hs6⟩ : ∃ x, x = u8 := ⟨_, rfl⟩
        subst hs6
        have o3 := (o1.ext y3).ext x6
        have z6 := ext_trans z3 x6
        obtain ⟨Y, hY⟩ : ∃ Y, Y = ([] ++ C.take a) ++ [c] := ⟨_, rfl⟩
        rw [← hY] at o6
        have hYl : Y.length ≤ 100001 := by rw [hY]; simp; omega
        have hn9 : Hid ((Y.length + (C.drop a).length) * 48 ≤ 140737488355328) := Lib.hid (by rw [List.length_drop]; omega)
        have hins2 : Hid (C2 = Y ++ C.drop a) := Lib.hid (by rw [hins.out, hY]; simp)
        have f6' : Fresh w.heap.size s6 := fun b hb => by have := f6 b hb; have := hz3.out; omega
        have hfin : ∀ (v9 : Value) (w9 : World), OwnC w9 v9 (Y ++ C.drop a) → Mod (own s6) w6 w9 → Next w6.heap.size s6 v9 → Hid (OwnC w9 v9 (cellsB s (L.drop k)) ∧ Fresh w.heap.size v9 ∧ Ext w w9) := fun v9 w9 k1 k2 k3 => Lib.hid ⟨by rw [← hC2.out, hins2.out]; exact k1, k3.fresh f6' z6.size, z6.trans k2 (fun _ _ h => h) (fun b hb h => by have := f6' b h; omega)⟩
        clear hY hins hins2 hcl hcc rT rc3 o1 g4
        by_cases hck : cp = a
        case pos =>
          have rR : Rc cel 4 w6 (own (.slice A C.length cp)) (.slice A (C.length - a) 0) (C.drop a) := Rc.rest0 o3.rc hal hck
          have hck2 : (cp : Int) - (a : Int) = 0 := by omega
          have hlk : C.length - a = 0 := by omega
          cases A with
          | none =>
            have hc0 : cp = 0 := g3 rfl
            have ha0 : a = 0 := by omega
            have hl0 : C.length = 0 := by omega
            have hCn : C = [] := List.eq_nil_of_length_eq_zero hl0
            subst hc0
            subst ha0
            subst hCn
            go_wp2_with ((with_reducible show wpList _ _ _ (⟨some 69, _, _, _, _, _⟩ :: _) _ _); refine wp_appRm tyC o6 rR (fun x _ => cel_ok x) hn9.out rfl (.tmp 65) (.tmp 68) rfl rfl rfl ?_; intro v9 w9 k1 k2 k3; obtain ⟨r1, r2, r3⟩ := (hfin v9 w9 k1 k2 k3).out)
            exact ⟨⟨k, by omega, rfl, r1, r2, r3⟩, by simp [intOf] <;> omega⟩
          | some bd3 =>
            rw [hlk] at rR
            go_wp2_with ((with_reducible show wpList _ _ _ (⟨some 69, _, _, _, _, _⟩ :: _) _ _); refine wp_appRm tyC o6 rR (fun x _ => cel_ok x) hn9.out rfl (.tmp 65) (.tmp 68) rfl rfl rfl ?_; intro v9 w9 k1 k2 k3; obtain ⟨r1, r2, r3⟩ := (hfin v9 w9 k1 k2 k3).out)
            exact ⟨⟨k, by omega, rfl, r1, r2, r3⟩, by simp [intOf] <;> omega⟩
        obtain ⟨bd3, hA3⟩ : ∃ bd3, A = some bd3 := by
          cases A with
          | none => exact absurd (by have := g3 rfl; omega) hck
          | some bd3 => exact ⟨bd3, rfl⟩
        subst hA3
        have rR : Rc cel 4 w6 (own (.slice (some bd3) C.length cp)) (.slice ((some bd3).map (fun x => x.add (a * 4))) (C.length - a) (cp - a)) (C.drop a) := Rc.rest cel_len o3.rc hal
        go_wp2_with ((with_reducible show wpList _ _ _ (⟨some 69, _, _, _, _, _⟩ :: _) _ _); refine wp_appRm tyC o6 rR (fun x _ => cel_ok x) hn9.out rfl (.tmp 65) (.tmp 68) rfl rfl rfl ?_; intro v9 w9 k1 k2 k3; obtain ⟨r1, r2, r3⟩ := (hfin v9 w9 k1 k2 k3).out)
        exact ⟨⟨k, by omega, rfl, r1, r2, r3⟩, by simp [intOf] <;> omega⟩
end Go.Proofs.Ytlfooppmdgddkaa
