/- filter: the program's Nodes. -/
import Derived.Test.YtekocbphdckmkaaFqA
namespace Go.Proofs.Ytekocbphdckmkaa
open Go.RowKit
set_option maxRecDepth 100000

/-- What the program's Nodes says, of filters at most n deep. -/
def NodesIP (n : Nat) : Prop := ∀ {w : World} {F : Fi} {vs vk : Value}, FilN n w F vs vk → nodesN n F ≤ 1000000 →
  Calls Try.prog 17 #[.agg #[.int .i64 F.kind, sv F.typ, sv F.val, vs, vk]] w fun e w' => e = .returned (iN (nodesN n F)) ∧ Ext w w'
set_option maxHeartbeats 8000000 in
theorem fnodes_step {n : Nat} (ih : NodesIP n) {w : World} {F : Fi} {vs vk : Value} (h : FilN (n + 1) w F vs vk) (hN : nodesN (n + 1) F ≤ 1000000) :
    Calls Try.prog 17 #[.agg #[.int .i64 F.kind, sv F.typ, sv F.val, vs, vk]] w fun e w' => e = .returned (iN (nodesN (n + 1) F)) ∧ Ext w w' := by
  obtain ⟨hFB, ⟨As, cs, es⟩, -, A, ca, ek, hop⟩ := h.open_
  have hkl := hFB.kl
  rw [nodes_succ] at hN ⊢
  obtain ⟨K, hKs⟩ : ∃ T, T = F.kids := ⟨_, rfl⟩
  rw [← hKs] at hkl ek hop hN ⊢
  obtain ⟨R, hR⟩ : ∃ R, R = iN (1 + (K.map (nodesN n)).sum) := ⟨_, rfl⟩
  rw [← hR]
  generalize F.kind = kd at *
  generalize F.typ = T at *
  generalize F.val = V at *
  obtain ⟨m, hm⟩ : ∃ m, m = F.subs.length := ⟨_, rfl⟩
  obtain ⟨q, hq⟩ : ∃ m, m = K.length := ⟨_, rfl⟩
  rw [← hm] at es
  rw [← hq] at ek
  subst es ek
  obtain ⟨w1, hw1⟩ : ∃ x, x = w.alloc (.cells #[.int .i64 kd, sv T, sv V, .slice As m cs, .slice A q ca] 25) := ⟨_, rfl⟩
  obtain ⟨p, hp⟩ : ∃ p, p = w.heap.size := ⟨_, rfl⟩
  have x1 : Ext w w1 := by rw [hw1]; exact (Mod.refl _ w).alloc _
  have BP : Blk w1 p 25 #[.int .i64 kd, sv T, sv V, .slice As m cs, .slice A q ca] := by rw [hw1, hp]; exact Blk.new w _ _
  have hcc : ∀ {wx : World}, Ext w1 wx → wx.cell? ⟨p, 4, none⟩ = some (.slice A q ca) := fun x => (BP.mod x (fun h => h)).cell 4
  have p4 := hcc (Mod.refl _ w1)
  have hq8 : q ≤ 140737488351232 := by omega
  replace hm := Lib.hid hm
  replace hq := Lib.hid hq
  replace hw1 := Lib.hid hw1
  replace hp := Lib.hid hp
  replace hR := Lib.hid hR
  clear BP h hFB
  go_enter Try.func17, Try.ntmps17
  go_upto_region 1 with fail
  rw [← hw1.out, ← hp.out]
  clear hw1 hp
  go_wp2_with fail
  go_loopw [3, 9] (fun v i wr => ∃ k : Nat, k ≤ q ∧ i = .int .i64 k ∧ v = .int .i64 (1 + (((K.take k).map (nodesN n)).sum : Nat)) ∧ Ext w1 wr) (fun _ i _ => q - (intOf i).toNat)
  case atStart => exact ⟨0, Nat.zero_le _, rfl, by simp, Mod.refl _ _⟩
  case round =>
    clear p4
    obtain ⟨k, hk, rfl, rfl, hx⟩ := hrel
    have p4 := hcc hx
    by_cases hlt : k < q
    case neg =>
      have hbl : decide ((k : Int) < (q : Int)) = false := dfalse (by omega)
      have hbn : decide (k < q) = false := dfalse (by omega)
      have hr : Hid (Value.int .i64 (1 + (((K.take k).map (nodesN n)).sum : Nat)) = R) := Lib.hid (by
        have e : K.take k = K := List.take_of_length_le (by have := hq.out; omega)
        rw [e, hR.out]
        congr 1)
      clear hR
      generalize ((K.take k).map (nodesN n)).sum = N at *
      go_wp2_with fail
      go_ret
      exact ⟨congrArg _ hr.out, ext_trans x1 hx⟩
    have hbl : decide ((k : Int) < (q : Int)) = true := dtrue (by omega)
    have hbn : decide (k < q) = true := dtrue (by omega)
    have hi0 : (0 : Int) ≤ (k : Int) := by omega
    have hi1 : (k : Int) < (q : Int) := by omega
    have hkb : k < K.length := by have := hq.out; omega
    obtain ⟨ag, ys, yk, e2, c0, c1, c2, c3, c4, h7⟩ := hop k hkb
    subst e2
    obtain ⟨⟨Y1, Y2, Y3, rfl⟩, Z1, Z2, Z3, rfl⟩ := h7.shape
    have y2 := ext_trans x1 hx
    replace c0 := ext_cell y2 c0
    replace c1 := ext_cell y2 c1
    replace c2 := ext_cell y2 c2
    replace c3 := ext_cell y2 c3
    replace c4 := ext_cell y2 c4
    have hsn := sum_next (nodesN n) K hkb
    have hst := sum_take (nodesN n) K (k + 1)
    generalize K[k] = x at *
    have hc := ih (w := wr.alloc (.cells #[.int .i64 x.kind, sv x.typ, sv x.val, .slice Y1 Y2 Y3, .slice Z1 Z2 Z3] 25)) (h7.ext (y2.alloc _)) (by omega)
    have hsn2 : Hid (1 + ((((K.take (k + 1)).map (nodesN n)).sum : Nat) : Int) = 1 + ((K.take k).map (nodesN n)).sum + nodesN n x) := Lib.hid (by omega)
    have hb1 : nodesN n x ≤ 1000000 := by omega
    have hb2 : ((K.take k).map (nodesN n)).sum ≤ 1000000 := by omega
    generalize ((K.take k).map (nodesN n)).sum = N at *
    generalize nodesN n x = M at *
    clear h7 hkb hsn hst
    go_wp2_with fail
    refine hc.mono ?_
    rintro e w9 ⟨rfl, x9⟩
    have x10 := ext_trans (hx.alloc (.cells #[.int .i64 x.kind, sv x.typ, sv x.val, .slice Y1 Y2 Y3, .slice Z1 Z2 Z3] 25)) x9
    clear hc c0 c1 c2 c3 c4 x9
    go_wp2_with fail
    exact ⟨⟨k + 1, by omega, by go_num, by rw [hsn2.out], x10⟩, by simp [intOf] <;> omega⟩
theorem fnodes_any : ∀ n, NodesIP n
  | 0 => fun h => h.elim
  | n + 1 => fnodes_step (fnodes_any n)
end Go.Proofs.Ytekocbphdckmkaa
