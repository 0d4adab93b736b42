/- mem: Get, Scan, All. -/
import Derived.Test.YtlfooppmdgddkaaMemG
import Derived.Laws.Cover1
namespace Go.Proofs.Ytlfooppmdgddkaa
open Go.RowKit
set_option maxRecDepth 100000

theorem results_cell_row2 {P : Program} {fn : Func} {p u : Tmp} {ty : TypeId} (h : fn.results = #[.cell p ty, .tmp u]) (tmps : Array Value) (w : World) (g : Nat) (t : TypeId) (cs : Array Value) (fr : Nat × Nat) (d : TypeDesc)
    (hp : tmps.getD p undef = .pointer (some ⟨g, 0, none⟩)) (hg : w.heap[g]? = some (.cells cs t fr))
    (hu : P.underlying ty = some d) (hd : (match d with | .struct _ | .array _ _ => true | _ => false) = true) (hi : (P.info? ty).map (·.size) = some cs.size) :
    (results fn tmps).run P w = .ok (.tuple #[.agg cs, tmps.getD u undef]) w := by
  have hp' : tmps[p]?.getD undef = .pointer (some ⟨g, 0, none⟩) := by simpa using hp
  rw [results_cell_tmp h]
  simp [hp', asAddr, Result.andThen, run_loadVar_row w g t ty cs fr d hg hu hd hi]
set_option maxHeartbeats 8000000 in
theorem get9_any {w : World} {S : Nat → Prop} {g n : Nat} {D : List Int} {N : List Nd} {A : List Nat} {L : List Ce} {vd vn va : Value} (m : Mx w S g D N A n vd vn va) (ok : Ok N A L) (key : List UInt8) (seq : Int) :
    Calls Try.prog 40 #[.pointer (some ⟨g, 0, none⟩), sv key, .int .i64 seq] w fun e w' => e = .returned (.tuple #[.agg (car (outS (firstC L key seq)).1), .bool (outS (firstC L key seq)).2]) ∧ Ext w w' := by
  have hso : sortedC L := by
    rcases ok with ⟨_, _, rfl⟩ | h
    · exact List.Pairwise.nil
    · exact h.2.1.1
  obtain ⟨Q, hQ⟩ : ∃ Q, Q = outS (firstC L key seq) := ⟨_, rfl⟩
  rw [← hQ]
  have hQ1 := hQ.trans (first_from hso key seq)
  clear hQ
  have B1 : Blk (w.alloc (.cells #[sv [], sv [], .bool false, .int .i64 0] 23)) w.heap.size 23 #[sv [], sv [], .bool false, .int .i64 0] := Blk.new w _ _
  have x1 : Ext w (w.alloc (.cells #[sv [], sv [], .bool false, .int .i64 0] 23)) := (Mod.refl _ w).alloc _
  have hfi := first9_any (m.ext x1) ok ⟨key, [], false, seq⟩
  have hok := ok
  replace hQ1 := Lib.hid hQ1
  go_enter Try.func40, Try.ntmps40
  go_wp2_with fail
  refine hfi.mono ?_
  rintro e w2 ⟨⟨a, rfl, hR⟩, x2⟩
  have m2 := m.ext (ext_trans x1 x2)
  have B2 := B1.mod x2 (fun h => h)
  replace x2 := ext_trans x1 x2
  have f0 := Blk.frozen B2 0
  have f1 := Blk.frozen B2 1
  have f2 := Blk.frozen B2 2
  have f3 := Blk.frozen B2 3
  have e0 : _ = some _ := Blk.cell B2 0
  have e1 : _ = some _ := Blk.cell B2 1
  have e2 : _ = some _ := Blk.cell B2 2
  have e3 : _ = some _ := Blk.cell B2 3
  have R5 := fun p q r s => (((B2.set_ 0 p).set_ 1 q).set_ 2 r).set_ 3 s
  have m9 := fun p q r s => (set4_mod w2 w.heap.size p q r s)
  clear hfi B1 x1 m
  rcases hR with ⟨rfl, hR⟩ | ⟨R', a0, an, hR⟩
  · have hQ2 := Lib.hid (show Q = (cz, false) by rw [hQ1.out, hR])
    clear hQ1 hR
    go_wp2_with fail
    refine bodyPost_ret (results_cell_row2 Try.results40 _ _ _ _ _ _ _ rfl (R5 _ _ _ _) Try.underlying23 rfl (by kernel_rfl)) rfl ?_
    exact ⟨by rw [hQ2.out]; rfl, x2.trans (m9 _ _ _ _) (fun _ _ h => h) (fun k hk h => by omega)⟩
  have hb0 : ((a : Int) == 0) = false := by rw [beq_eq_false_iff_ne]; omega
  have b1 : w2.cell? ⟨g, 1, none⟩ = some vn := m2.blk.cell 1
  obtain ⟨Bn, cn, hv, -, -, -, h4⟩ := m2.n.rc.open_ ndc_len
  subst hv
  obtain ⟨ad, hA, -, c0, c1, c2, c3, -, -⟩ := Ns.at_ h4 an
  subst hA
  have hQ2 : Hid (Q = if (nd N a).c.key = key then ((nd N a).c, true) else (cz, false)) := Lib.hid (by rw [hQ1.out, hR])
  generalize nd N a = x at *
  have hi0 : (0 : Int) ≤ (a : Int) := by omega
  have hi1 : (a : Int) < (N.length : Int) := by omega
  clear hQ1 h4 hok ok m2
  by_cases hk : x.c.key = key
  case neg =>
    have hb1 : (x.c.key != key) = true := by rw [bne_iff_ne]; exact hk
    have hb2 : (x.c.key == key) = false := by rw [beq_eq_false_iff_ne]; exact hk
    have hQ3 := Lib.hid (hQ2.out.trans (if_neg hk))
    clear hk hQ2 hR
    go_wp2_with fail
    refine bodyPost_ret (results_cell_row2 Try.results40 _ _ _ _ _ _ _ rfl (R5 _ _ _ _) Try.underlying23 rfl (by kernel_rfl)) rfl ?_
    exact ⟨by rw [hQ3.out]; rfl, x2.trans (m9 _ _ _ _) (fun _ _ h => h) (fun k hk h => by omega)⟩
  have hb1 : (x.c.key != key) = false := by rw [bne_eq_false_iff_eq]; exact hk
  have hb2 : (x.c.key == key) = true := by rw [beq_iff_eq]; exact hk
  have hQ3 := Lib.hid (hQ2.out.trans (if_pos hk))
  clear hk hQ2 hR
  go_wp2_with fail
  refine bodyPost_ret (results_cell_row2 Try.results40 _ _ _ _ _ _ _ rfl (R5 _ _ _ _) Try.underlying23 rfl (by kernel_rfl)) rfl ?_
  exact ⟨by rw [hQ3.out]; rfl, x2.trans (m9 _ _ _ _) (fun _ _ h => h) (fun k hk h => by omega)⟩

theorem take_done {α : Type} {p : α → Bool} : ∀ {d R : List α}, (∀ x ∈ d, p x = true) → (∀ y R', R = y :: R' → p y = false) → (d ++ R).takeWhile p = d
  | [], [], _, _ => rfl
  | [], y :: R, _, h => by rw [List.nil_append, List.takeWhile_cons, h y R rfl]; rfl
  | x :: d, R, h, h2 => by
    rw [List.cons_append, List.takeWhile_cons, h x (List.mem_cons_self ..)]
    simp only [if_true]
    rw [take_done (fun y hy => h y (List.mem_cons_of_mem _ hy)) h2]

/-- How much is left. -/
def meas9 (N : List Nd) (a : Nat) : Nat := if a = 0 then 0 else cnt N a + 1
set_option maxHeartbeats 8000000 in
theorem scan9_any {w : World} {S : Nat → Prop} {g n : Nat} {D : List Int} {N : List Nd} {A : List Nat} {L : List Ce} {vd vn va : Value} (m : Mx w S g D N A n vd vn va) (ok : Ok N A L) (hC : ∀ c ∈ L, isC c) (hL : L.length ≤ 1000000) (a b : List UInt8) :
    Calls Try.prog 43 #[.pointer (some ⟨g, 0, none⟩), sv a, sv b] w fun e w' => ∃ v', e = .returned v' ∧ OwnC w' v' (scanC L a b) ∧ Fresh w.heap.size v' ∧ Ext w w' := by
  have hso : sortedC L := by
    rcases ok with ⟨_, _, rfl⟩ | h
    · exact List.Pairwise.nil
    · exact h.2.1.1
  rw [scan_from hso (fun c hc => by have := (hC c hc).2.2.2.2.2; omega)]
  have hfi := first9_any m ok ⟨a, [], false, 9223372036854775807⟩
  obtain ⟨F, hF⟩ : ∃ F, F = fromC L ⟨a, [], false, 9223372036854775807⟩ := ⟨_, rfl⟩
  have hLF : Hid (∃ pre, L = pre ++ F) := Lib.hid ⟨_, by rw [hF]; exact (from_split L _).symm⟩
  rw [← hF] at hfi ⊢
  clear hF
  obtain ⟨Z, hZ⟩ : ∃ Z, Z = F.takeWhile fun c => b == [] || Op.bytesLess c.key b := ⟨_, rfl⟩
  rw [← hZ]
  replace hZ := Lib.hid hZ
  go_enter Try.func43, Try.ntmps43
  go_wp2_with fail
  refine hfi.mono ?_
  rintro e w1 ⟨⟨at0, rfl, hR0⟩, x1⟩
  clear hfi
  go_wp2_with fail
  go_loopw [7, 8] (fun vo i wr => ∃ (at_ : Nat) (d R : List Ce), i = .int .i64 (at_ : Nat) ∧ Hid (F = d ++ R ∧ AtR N at_ R ∧ ∀ c ∈ d, (b == [] || Op.bytesLess c.key b) = true) ∧ OwnC wr vo d ∧ Fresh w.heap.size vo ∧ Ext w wr) (fun _ i _ => meas9 N (intOf i).toNat)
  case atStart => exact ⟨at0, [], F, rfl, Lib.hid ⟨rfl, hR0, fun c hc => by cases hc⟩, OwnR.nil _ _ _ _, fresh_nil _ _ _, x1⟩
  case round =>
    clear hR0
    obtain ⟨k, d, R, rfl, hf, o1, f1, x2⟩ := hrel
    rcases hf.out.2.1 with ⟨rfl, hR⟩ | ⟨R', k0, kn, hR⟩
    · have hZd : Hid (Z = d) := Lib.hid (by
        rw [hZ.out, hf.out.1, hR]
        exact take_done hf.out.2.2 (fun _ _ h => by cases h))
      clear hR hf
      go_wp2_with fail
      go_ret
      exact ⟨_, rfl, hZd.out ▸ o1, f1, x2⟩
    have hs : Sk N A ∧ Ls N L := by
      rcases ok with ⟨h, _, _⟩ | h
      · rw [h] at kn; simp at kn
      · exact ⟨h.1, h.2.1⟩
    have hb0 : ((k : Int) != 0) = true := by rw [bne_iff_ne]; omega
    have m2 := m.ext x2
    have b1 : wr.cell? ⟨g, 1, none⟩ = some vn := m2.blk.cell 1
    obtain ⟨Bn, cn, hv, -, -, -, h4⟩ := m2.n.rc.open_ ndc_len
    rw [hv] at b1
    obtain ⟨ad, hA, -, c0, c1, c2, c3, -, -⟩ := Ns.at_ h4 kn
    subst hA
    have hnx := fun (wx : World) (hx : Ext w wx) => next_any (m.ext hx) kn (h := 0) (by have := hs.1.fit _ kn; have := (hs.1.high _ kn).1; omega)
    have hdn := hf.out.2.2
    have hnext : Hid (AtR N (nxt N A k 0) R') := Lib.hid (by
      obtain ⟨pre, hp⟩ := hLF.out
      exact AtR.next hs.1 hs.2 (pre := pre ++ d) k0 kn (by rw [hp, hf.out.1, hR, List.append_assoc]))
    have hmeas : Hid (meas9 N (nxt N A k 0) < meas9 N k) := Lib.hid (by
      unfold meas9
      rw [if_neg (show ¬ k = 0 by omega)]
      by_cases h0 : nxt N A k 0 = 0
      · rw [if_pos h0]; omega
      · rw [if_neg h0]
        rcases hs.1.link k 0 kn (by have := (hs.1.high _ kn).1; omega) with ⟨h, _⟩ | ⟨h1, h2, _, h3, _⟩
        · exact absurd h h0
        · have := cnt_lt h1 h2 h3; omega)
    have hFy : Hid (F = d ++ (nd N k).c :: R') := Lib.hid (by rw [hf.out.1, hR])
    have hdl : d.length ≤ 1000000 := by
      obtain ⟨pre, hp⟩ := hLF.out
      have h1 := congrArg List.length hp
      have h2 := congrArg List.length hf.out.1
      rw [List.length_append] at h1 h2
      omega
    have hn1 : Hid ((d.length + 1) * 48 ≤ 140737488355328) := Lib.hid (by omega)
    replace hdn := Lib.hid hdn
    obtain ⟨nx, hnxx⟩ : ∃ nx, nx = nxt N A k 0 := ⟨_, rfl⟩
    rw [← hnxx] at hnext hmeas
    simp only [← hnxx] at hnx
    replace hnxx := Lib.hid hnxx
    have hi0 : (0 : Int) ≤ (k : Int) := by omega
    have hi1 : (k : Int) < (N.length : Int) := by omega
    replace hs := Lib.hid hs
    generalize nd N k = x at *
    have xb : Ext wr (wr.alloc (.cells (car x.c) 23)) := (Mod.refl _ wr).alloc _
    obtain ⟨d0, d1, d2, d3⟩ := boxed wr x.c
    obtain ⟨w3, hw3⟩ : ∃ w3, w3 = wr.alloc (.cells (car x.c) 23) := ⟨_, rfl⟩
    rw [← hw3] at xb d0 d1 d2 d3
    have o3 := o1.ext xb
    have x3 := ext_trans x2 xb
    replace hw3 := Lib.hid hw3
    replace hv := Lib.hid hv
    clear h4 hR hf xb m2
    go_upto_region 6 with fail
    rw [← hw3.out]
    have hbe : (b == []) = b.isEmpty := by cases b <;> rfl
    have hpx : (b.isEmpty || Op.bytesLess x.c.key b) = true → Hid (F = (d ++ [x.c]) ++ R' ∧ AtR N nx R' ∧ ∀ c ∈ d ++ [x.c], (b == [] || Op.bytesLess c.key b) = true) := fun h => Lib.hid ⟨by rw [hFy.out, List.append_assoc]; rfl, hnext.out, fun c hc => by
      rcases List.mem_append.1 hc with h1 | h1
      · exact hdn.out c h1
      · rw [List.mem_singleton.1 h1, hbe]; exact h⟩
    have hZd : (b.isEmpty || Op.bytesLess x.c.key b) = false → Hid (Z = d) := fun h => Lib.hid (by
      rw [hZ.out, hFy.out]
      refine take_done hdn.out (fun y R' h1 => ?_)
      cases h1
      rw [hbe]; exact h)
    clear hbe
    obtain ⟨Ao, co, hvo⟩ := o3.shape
    subst hvo
    cases hb1 : b.isEmpty
    case false =>
      rw [hb1] at hpx hZd
      cases hb2 : Op.bytesLess x.c.key b
      case false =>
        have hZe := hZd (by rw [hb2]; rfl)
        clear hpx hZd
        go_wp2_with fail
        go_ret
        exact ⟨_, rfl, hZe.out ▸ o3, f1, x3⟩
      have hp := hpx (by rw [hb2]; rfl)
      clear hpx hZd
      go_wp2_with ((with_reducible show wpList _ _ _ (⟨some 38, _, _, _, _, _⟩ :: _) _ _); refine wp_appR (x := x.c) tyC cel_len o3 rfl (cel_ok _) hn1.out rfl (.tmp 35) (.tmp 37) rfl rfl rfl ?_; intro v6 w6 k1 k2 k3)
      have x6 : Ext w w6 := ext_app0 x3 f1 k2
      have f6 := k3.fresh f1 x3.size
      refine (hnx _ x6).mono ?_
      rintro e w7 ⟨rfl, n7, rfl⟩
      go_wp2_with fail
      exact ⟨⟨nx, d ++ [x.c], R', rfl, hp, k1.ext ((Mod.refl _ w6).drewN _), f6, x6.drewN _⟩, by simpa [intOf] using hmeas.out⟩
    rw [hb1] at hpx
    have hp := hpx (by rfl)
    clear hpx hZd
    go_wp2_with ((with_reducible show wpList _ _ _ (⟨some 38, _, _, _, _, _⟩ :: _) _ _); refine wp_appR (x := x.c) tyC cel_len o3 rfl (cel_ok _) hn1.out rfl (.tmp 35) (.tmp 37) rfl rfl rfl ?_; intro v6 w6 k1 k2 k3)
    have x6 : Ext w w6 := ext_app0 x3 f1 k2
    have f6 := k3.fresh f1 x3.size
    refine (hnx _ x6).mono ?_
    rintro e w7 ⟨rfl, n7, rfl⟩
    go_wp2_with fail
    exact ⟨⟨nx, d ++ [x.c], R', rfl, hp, k1.ext ((Mod.refl _ w6).drewN _), f6, x6.drewN _⟩, by simpa [intOf] using hmeas.out⟩
end Go.Proofs.Ytlfooppmdgddkaa
