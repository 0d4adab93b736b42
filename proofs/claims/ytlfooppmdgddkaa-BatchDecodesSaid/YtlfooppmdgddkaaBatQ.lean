/- batch: Decode. -/
import Derived.Test.YtlfooppmdgddkaaBatN
import Derived.Test.YtlfooppmdgddkaaCelE
import Derived.Test.YtlfooppmdgddkaaBatJ
namespace Go.Proofs.Ytlfooppmdgddkaa
open Go.RowKit
set_option maxRecDepth 100000

/-- What Decode tells: rows and a code. -/
def Told (b : List UInt8) (L : List Ro) (e : Nat) : Prop := (canB b L ∧ e = 0) ∨ ((¬ ∃ M, canB b M) ∧ L = [] ∧ e = 3)
theorem Told.one {b : List UInt8} {L M : List Ro} {e f : Nat} (h : Told b L e) (h' : Told b M f) : L = M ∧ e = f := by
  rcases h with ⟨h, rfl⟩ | ⟨h, rfl, rfl⟩ <;> rcases h' with ⟨h', rfl⟩ | ⟨h', rfl, rfl⟩
  · exact ⟨encB10_inj h.1 h'.1 (h.2.trans h'.2.symm), rfl⟩
  · exact absurd ⟨_, h⟩ h'
  · exact absurd ⟨_, h'⟩ h
  · exact ⟨rfl, rfl⟩
/-- Where the loop ends, of bytes that may be. -/
theorem can_end {f : St → Ro × St} (hf : Reads f) {b : List UInt8} {M : List Ro} (h : canB b M) {n : Nat} {s0 : St} (hn : takeN (some b) = (n, s0)) {k : Nat} (hk : k ≤ n) :
    n = M.length ∧ (∃ l, stK f s0 k = some l) ∧ (k = n → stK f s0 k = some [] ∧ lsK f s0 k = M) := by
  obtain ⟨hc, rfl⟩ := h
  obtain ⟨_, hall, hl, _⟩ := chk_zero hc
  rw [encB10_num hl] at hn
  injection hn with e1 e2
  subst e1
  subst e2
  obtain ⟨a, c⟩ := reads_all hf hall k hk
  refine ⟨rfl, ⟨_, a⟩, fun e => ?_⟩
  subst e
  rw [a, c, List.drop_length, List.take_length]
  exact ⟨rfl, rfl⟩

set_option maxHeartbeats 32000000 in
theorem bdecode_any {w : World} {S : Nat → Prop} {y : Value} {b : List UInt8} (hy : Bs w S y b) (hb : b.length ≤ 100000) :
    Calls Try.prog 58 #[y] w fun e w' => ∃ v' L c, e = .returned (.tuple #[v', .int .i64 (c : Nat)]) ∧ Told b L c ∧ OwnW w' v' L ∧ Fresh w.heap.size v' ∧ Ext w w' := by
  have hnr := newreader_any hy (by omega)
  have heq := fun (wx : World) (u : Value) (l : List UInt8) (T : Nat → Prop) (hu : Bs wx T u l) (hx : Ext w wx) => equal_any hu (hy.ext hx)
  obtain ⟨A, c, hv, -⟩ := hy.open_
  subst hv
  go_enter Try.func58, Try.ntmps58
  go_wp2_with fail
  refine hnr.mono ?_
  rintro e w1 ⟨g, v1, rfl, R1, hg1, hg2, x1⟩
  clear hnr
  go_wp2_with fail
  refine (num_any R1).mono ?_
  rintro e w2 ⟨v2, rfl, R2, m2, -⟩
  have x2 : Ext w w2 := x1.trans m2 (fun _ _ h => h) (fun k hk h => by omega)
  obtain ⟨n, hn⟩ : ∃ n, n = (takeN (some b)).1 := ⟨_, rfl⟩
  obtain ⟨s0, hs0⟩ : ∃ s, s = (takeN (some b)).2 := ⟨_, rfl⟩
  have hns : takeN (some b) = (n, s0) := by rw [hn, hs0]
  rw [← hs0] at R2
  rw [← hn]
  have hrem : remS s0 ≤ b.length := by
    have := takeN_len (some b)
    rw [hs0]
    exact this
  have hnb : n ≤ 4611686018427387904 := by
    cases hx : takeNum b with
    | none => rw [hn]; simp [takeN, hx]
    | some p =>
      obtain ⟨n1, t1⟩ := p
      have := (numF_lt 9 0 0 b t1 n1 hx).2
      rw [hn]; simp [takeN, hx]; omega
  replace hns := Lib.hid hns
  clear hn hs0 R1 m2 x1
  obtain ⟨q, hq⟩ : ∃ q, q = w.heap.size := ⟨_, rfl⟩
  rw [← hq] at R2
  have hgq : q < g := by omega
  go_wp2_with fail
  go_loopw [6, 7] (fun t i wr => ∃ (k : Nat) (vr : Value), k ≤ n ∧ i = .int .i64 (k : Nat) ∧ (stK takeA s0 k ≠ none → k + remS (stK takeA s0 k) ≤ b.length) ∧ k ≤ b.length + 1 ∧ Rd wr g (fun k => k = q) vr (stK takeA s0 k) ∧ OwnW wr t (lsK takeA s0 k) ∧ Fresh (g + 1) t ∧ Ext w wr) (fun _ i _ => n - (intOf i).toNat)
  case atStart => exact ⟨0, _, Nat.zero_le _, rfl, fun _ => by show 0 + remS s0 ≤ _; omega, by omega, R2, OwnR.nil _ _ _ _, fresh_nil _ _ _, x2⟩
  case round =>
    clear R2 x2
    obtain ⟨k, vr, hk, rfl, hkr, hkb, R3, o3, f3, x3⟩ := hrel
    by_cases hkn : k = n
    case pos =>
      have hgo : (∃ M, canB b M) → isWhole (stK takeA s0 k) = true ∧ chkR (lsK takeA s0 k) = 0 ∧ encR10 (lsK takeA s0 k) = b := by
        rintro ⟨M, hM⟩
        obtain ⟨h1, ⟨_, h2⟩, h3⟩ := can_end reads_A hM hns.out hk
        have hkn : k = n := hkn
        obtain ⟨h4, h5⟩ := h3 hkn
        rw [h4, h5]
        exact ⟨rfl, hM.1, by unfold encR10; rw [if_pos hM.1]; exact hM.2⟩
      have hll := lsK_len takeA s0 k
      have hlr := eats_all eats_A s0 k
      obtain ⟨l, hl⟩ : ∃ l, l = lsK takeA s0 k := ⟨_, rfl⟩
      obtain ⟨st, hst⟩ : ∃ st, st = stK takeA s0 k := ⟨_, rfl⟩
      rw [← hl] at o3 hgo hll hlr
      rw [← hst] at R3 hgo hlr
      obtain ⟨t, ht⟩ : ∃ t, t = u6 := ⟨_, rfl⟩
      subst ht
      have hbn : decide ((k : Int) < (n : Int)) = false := dfalse (by omega)
      replace hl := Lib.hid hl
      replace hst := Lib.hid hst
      have hwl : wR l ≤ 1000000000 := by rw [wR_eq, hll]; omega
      have hen := bencode_any o3.rc hwl
      have hck : chkR l = 0 → encR10 l = b → canB b l := fun h1 h2 => ⟨h1, by unfold encR10 at h2; rwa [if_pos h1] at h2⟩
      obtain ⟨C, hC⟩ : ∃ C, C = chkR l := ⟨_, rfl⟩
      obtain ⟨EE, hEE⟩ : ∃ E, E = encR10 l := ⟨_, rfl⟩
      rw [← hC, ← hEE] at hen hgo hck
      replace hC := Lib.hid hC
      replace hEE := Lib.hid hEE
      go_wp2_with fail
      refine hen.mono ?_
      rintro e w7 ⟨v7, rfl, o7, -, x7⟩
      have R7 := R3.mod x7 (fun h => h) (fun _ _ _ h => h)
      have o8 := o3.ext x7
      have xw := ext_trans x3 x7
      have f8 : Fresh w.heap.size t := fun k hk => by have := f3 k hk; omega
      clear hen R3 o3 x3 x7 hll hwl
      go_wp2_with fail
      refine (whole_any R7).mono ?_
      rintro e w8 ⟨rfl, rfl⟩
      generalize isWhole st = W at *
      cases W
      case false =>
        clear hck
        go_wp2_with fail
        go_ret2
        exact ⟨_, [], 3, rfl, .inr ⟨fun hM => (by have := (hgo hM).1; cases this), rfl, rfl⟩, OwnR.nil _ _ _ _, fresh_nil _ _ _, xw⟩
      by_cases hC0 : C = 0
      case neg =>
        have hb1 : ((C : Int) != 0) = true := by rw [bne_iff_ne]; omega
        clear hck
        go_wp2_with fail
        go_ret2
        exact ⟨_, [], 3, rfl, .inr ⟨fun hM => hC0 (hgo hM).2.1, rfl, rfl⟩, OwnR.nil _ _ _ _, fresh_nil _ _ _, xw⟩
      have hb1 : ((C : Int) != 0) = false := by rw [bne_eq_false_iff_eq]; omega
      go_wp2_with fail
      refine (heq _ _ EE _ o7.sl xw).mono ?_
      rintro e w9 ⟨rfl, rfl⟩
      by_cases hQ : EE = b
      · rw [dtrue hQ]
        have hcb := Lib.hid (hck hC0 hQ)
        clear hck hgo hQ hC0
        go_wp2_with fail
        go_ret2
        exact ⟨_, l, 0, rfl, .inl ⟨hcb.out, rfl⟩, o8, f8, xw⟩
      rw [dfalse hQ]
      clear hck hC0
      go_wp2_with fail
      go_ret2
      exact ⟨_, [], 3, rfl, .inr ⟨fun hM => hQ (hgo hM).2.2, rfl, rfl⟩, OwnR.nil _ _ _ _, fresh_nil _ _ _, xw⟩
    have hbn : decide ((k : Int) < (n : Int)) = true := dtrue (by omega)
    have hgd := good_any R3
    cases hsk : stK takeA s0 k
    case none =>
      have hgo : (∃ M, canB b M) → isWhole (stK takeA s0 k) = true ∧ chkR (lsK takeA s0 k) = 0 ∧ encR10 (lsK takeA s0 k) = b := by
        rintro ⟨M, hM⟩
        obtain ⟨h1, ⟨_, h2⟩, h3⟩ := can_end reads_A hM hns.out hk
        have hkn : k = n := by rw [hsk] at h2; cases h2
        obtain ⟨h4, h5⟩ := h3 hkn
        rw [h4, h5]
        exact ⟨rfl, hM.1, by unfold encR10; rw [if_pos hM.1]; exact hM.2⟩
      have hll := lsK_len takeA s0 k
      have hlr := eats_all eats_A s0 k
      obtain ⟨l, hl⟩ : ∃ l, l = lsK takeA s0 k := ⟨_, rfl⟩
      obtain ⟨st, hst⟩ : ∃ st, st = stK takeA s0 k := ⟨_, rfl⟩
      rw [← hl] at o3 hgo hll hlr
      rw [← hst] at R3 hgo hlr
      obtain ⟨t, ht⟩ : ∃ t, t = u6 := ⟨_, rfl⟩
      subst ht
      rw [hsk] at hgd
      clear hsk
      replace hl := Lib.hid hl
      replace hst := Lib.hid hst
      go_wp2_with fail
      refine hgd.mono ?_
      rintro e w6 ⟨rfl, rfl⟩
      have hwl : wR l ≤ 1000000000 := by rw [wR_eq, hll]; omega
      have hen := bencode_any o3.rc hwl
      have hck : chkR l = 0 → encR10 l = b → canB b l := fun h1 h2 => ⟨h1, by unfold encR10 at h2; rwa [if_pos h1] at h2⟩
      obtain ⟨C, hC⟩ : ∃ C, C = chkR l := ⟨_, rfl⟩
      obtain ⟨EE, hEE⟩ : ∃ E, E = encR10 l := ⟨_, rfl⟩
      rw [← hC, ← hEE] at hen hgo hck
      replace hC := Lib.hid hC
      replace hEE := Lib.hid hEE
      go_wp2_with fail
      refine hen.mono ?_
      rintro e w7 ⟨v7, rfl, o7, -, x7⟩
      have R7 := R3.mod x7 (fun h => h) (fun _ _ _ h => h)
      have o8 := o3.ext x7
      have xw := ext_trans x3 x7
      have f8 : Fresh w.heap.size t := fun k hk => by have := f3 k hk; omega
      clear hen R3 o3 x3 x7 hll hwl
      go_wp2_with fail
      refine (whole_any R7).mono ?_
      rintro e w8 ⟨rfl, rfl⟩
      generalize isWhole st = W at *
      cases W
      case false =>
        clear hck
        go_wp2_with fail
        go_ret2
        exact ⟨_, [], 3, rfl, .inr ⟨fun hM => (by have := (hgo hM).1; cases this), rfl, rfl⟩, OwnR.nil _ _ _ _, fresh_nil _ _ _, xw⟩
      by_cases hC0 : C = 0
      case neg =>
        have hb1 : ((C : Int) != 0) = true := by rw [bne_iff_ne]; omega
        clear hck
        go_wp2_with fail
        go_ret2
        exact ⟨_, [], 3, rfl, .inr ⟨fun hM => hC0 (hgo hM).2.1, rfl, rfl⟩, OwnR.nil _ _ _ _, fresh_nil _ _ _, xw⟩
      have hb1 : ((C : Int) != 0) = false := by rw [bne_eq_false_iff_eq]; omega
      go_wp2_with fail
      refine (heq _ _ EE _ o7.sl xw).mono ?_
      rintro e w9 ⟨rfl, rfl⟩
      by_cases hQ : EE = b
      · rw [dtrue hQ]
        have hcb := Lib.hid (hck hC0 hQ)
        clear hck hgo hQ hC0
        go_wp2_with fail
        go_ret2
        exact ⟨_, l, 0, rfl, .inl ⟨hcb.out, rfl⟩, o8, f8, xw⟩
      rw [dfalse hQ]
      clear hck hC0
      go_wp2_with fail
      go_ret2
      exact ⟨_, [], 3, rfl, .inr ⟨fun hM => hQ (hgo hM).2.2, rfl, rfl⟩, OwnR.nil _ _ _ _, fresh_nil _ _ _, xw⟩
    rename_i lk
    rw [hsk] at hgd
    have hkr2 := hkr (by rw [hsk]; exact fun h => by cases h)
    have htk := btake_any R3 (fun k hk => by rw [hk]; have := R3.blk.lt; omega) (by omega)
    have hlk := lsK_len takeA s0 k
    have hes := (eats_A (stK takeA s0 k)).2 lk hsk
    have hs1 : stK takeA s0 (k + 1) = (takeA (stK takeA s0 k)).2 := rfl
    have hs2 : lsK takeA s0 (k + 1) = lsK takeA s0 k ++ [(takeA (stK takeA s0 k)).1] := rfl
    have hkr3 : stK takeA s0 (k + 1) ≠ none → k + 1 + remS (stK takeA s0 (k + 1)) ≤ b.length := fun h => by
      rw [hs1] at h ⊢
      have := hes h
      omega
    clear hes hkr hsk
    rw [← hs1] at htk
    generalize (takeA (stK takeA s0 k)).1 = r1 at *
    replace hs1 := Lib.hid hs1
    replace hs2 := Lib.hid hs2
    replace hlk := Lib.hid hlk
    replace hkr3 := Lib.hid hkr3
    go_wp2_with fail
    refine hgd.mono ?_
    rintro e w6 ⟨rfl, rfl⟩
    go_wp2_with fail
    refine htk.mono ?_
    rintro e w7 ⟨v7, rfl, R7, m7⟩
    have o7 := o3.mod m7 (fun b hb e => by have := f3 b hb; omega)
    have x7 : Ext w w7 := x3.trans m7 (fun _ _ h => h) (fun b hb e => by omega)
    have hz7 := m7.size
    have hg7 := R3.blk.lt
    go_wp2_with ((with_reducible show wpList _ _ _ (⟨some 27, _, _, _, _, _⟩ :: _) _ _); refine wp_appR tyW rol_len (x := r1) o7 rfl (rol_ok _) (by rw [hlk.out]; omega) rfl _ _ rfl rfl rfl ?_; intro v8 w8 o8 m8 n8)
    rw [← hs2.out] at o8
    exact ⟨⟨k + 1, v7, by omega, by go_num, hkr3.out, by omega, R7.mod m8 (fun h => by have := f3 _ h; omega) (fun b _ hb h => by have := f3 _ h; omega), o8, n8.fresh f3 (by have := R7.blk.lt; omega), x7.trans m8 (fun _ _ h => h) (fun b hb h => by have := f3 _ h; omega)⟩, by simp [intOf] <;> omega⟩
end Go.Proofs.Ytlfooppmdgddkaa
namespace Go.Proofs.Ytlfooppmdgddkaa
open Go.RowKit
set_option maxRecDepth 100000

set_option maxHeartbeats 32000000 in
theorem rbdecode_any {w : World} {S : Nat → Prop} {y : Value} {b : List UInt8} (hy : Bs w S y b) (hb : b.length ≤ 100000) :
    Calls Try.prog 59 #[y] w fun e w' => ∃ v' L c, e = .returned (.tuple #[v', .int .i64 (c : Nat)]) ∧ Told b L c ∧ OwnW w' v' L ∧ Fresh w.heap.size v' ∧ Ext w w' := by
  have hy1 : Bs w (fun k => S k ∧ k < w.heap.size) y b := hy.mono (fun k hk hs => ⟨hs, hk⟩)
  have cvb := fun (wx : World) (hx : Ext w wx) => run_conv (P := Try.prog) Try.underlying30 Try.underlying5 Try.underlying9 (hy.ext hx)
  obtain ⟨w1, hw1⟩ : ∃ w1, w1 = w.alloc (.cells #[y, .bool false] 97) := ⟨_, rfl⟩
  have x1 : Ext w w1 := by rw [hw1]; exact (Mod.refl _ w).alloc _
  have R1 : Rr w1 w.heap.size (fun k => S k ∧ k < w.heap.size) y (some b) := by
    refine ⟨by rw [hw1]; exact Blk.new w _ _, hy1.ext x1, fun h => by omega⟩
  obtain ⟨A, c, hv, -⟩ := hy.open_
  subst hv
  replace hw1 := Lib.hid hw1
  have hnm := rrnum_any R1 (by simp; omega)
  go_enter Try.func59, Try.ntmps59
  go_upto_region 2 with fail
  rw [← hw1.out]
  go_wp2_with fail
  refine hnm.mono ?_
  rintro e w2 ⟨v2, rfl, R2, m2⟩
  have x2 : Ext w w2 := x1.trans m2 (fun _ _ h => h) (fun k hk h => by omega)
  obtain ⟨n, hn⟩ : ∃ n, n = (takeN (some b)).1 := ⟨_, rfl⟩
  obtain ⟨s0, hs0⟩ : ∃ s, s = (takeN (some b)).2 := ⟨_, rfl⟩
  have hns : takeN (some b) = (n, s0) := by rw [hn, hs0]
  rw [← hs0] at R2
  rw [← hn]
  have hrem : remS s0 ≤ b.length := by
    have := takeN_len (some b)
    rw [hs0]
    exact this
  have hnb : n ≤ 4611686018427387904 := by
    cases hx : takeNum b with
    | none => rw [hn]; simp [takeN, hx]
    | some p =>
      obtain ⟨n1, t1⟩ := p
      have := (numF_lt 9 0 0 b t1 n1 hx).2
      rw [hn]; simp [takeN, hx]; omega
  replace hns := Lib.hid hns
  obtain ⟨g, hg⟩ : ∃ g, g = w.heap.size := ⟨_, rfl⟩
  rw [← hg] at R2 ⊢
  obtain ⟨T, hT⟩ : ∃ T : Nat → Prop, T = fun k => S k ∧ k < g := ⟨_, rfl⟩
  have hSg : ∀ k, T k → k < g := fun k h => by rw [hT] at h; exact h.2
  rw [← hT] at R2
  clear hT
  clear hn hs0 R1 m2 x1 hnm hw1 hy1
  replace hg := Lib.hid hg
  go_wp2_with fail
  go_loopw [6, 7] (fun t i wr => ∃ (k : Nat) (vr : Value), k ≤ n ∧ i = .int .i64 (k : Nat) ∧ (stK takeD s0 k ≠ none → k + remS (stK takeD s0 k) ≤ b.length) ∧ k ≤ b.length + 1 ∧ Rr wr g T vr (stK takeD s0 k) ∧ OwnW wr t (lsK takeD s0 k) ∧ Fresh (g + 1) t ∧ Ext w wr) (fun _ i _ => n - (intOf i).toNat)
  case atStart => exact ⟨0, _, Nat.zero_le _, rfl, fun _ => by show 0 + remS s0 ≤ _; omega, by omega, R2, OwnR.nil _ _ _ _, fresh_nil _ _ _, x2⟩
  case round =>
    clear R2 x2
    obtain ⟨k, vr, hk, rfl, hkr, hkb, R3, o3, f3, x3⟩ := hrel
    by_cases hkn : k = n
    case pos =>
      have hgo : (∃ M, canB b M) → stK takeD s0 k ≠ none ∧ chkR (lsK takeD s0 k) = 0 ∧ encR10 (lsK takeD s0 k) = b := by
        rintro ⟨M, hM⟩
        obtain ⟨h1, ⟨_, h2⟩, h3⟩ := can_end reads_D hM hns.out hk
        have hkn : k = n := hkn
        obtain ⟨h4, h5⟩ := h3 hkn
        rw [h4, h5]
        exact ⟨(fun h => by cases h), hM.1, by unfold encR10; rw [if_pos hM.1]; exact hM.2⟩
      have hll := lsK_len takeD s0 k
      have hlr := eats_all eats_D s0 k
      obtain ⟨l, hl⟩ : ∃ l, l = lsK takeD s0 k := ⟨_, rfl⟩
      obtain ⟨st, hst⟩ : ∃ st, st = stK takeD s0 k := ⟨_, rfl⟩
      rw [← hl] at o3 hgo hll hlr
      rw [← hst] at R3 hgo hlr
      obtain ⟨t, ht⟩ : ∃ t, t = u6 := ⟨_, rfl⟩
      subst ht
      have hbn : decide ((k : Int) < (n : Int)) = false := dfalse (by omega)
      replace hl := Lib.hid hl
      replace hst := Lib.hid hst
      have hwl : wR l ≤ 1000000000 := by rw [wR_eq, hll]; omega
      have hen := rbencode_any o3.rc hwl
      have hck : chkR l = 0 → encR10 l = b → canB b l := fun h1 h2 => ⟨h1, by unfold encR10 at h2; rwa [if_pos h1] at h2⟩
      obtain ⟨C, hC⟩ : ∃ C, C = chkR l := ⟨_, rfl⟩
      obtain ⟨EE, hEE⟩ : ∃ E, E = encR10 l := ⟨_, rfl⟩
      rw [← hC, ← hEE] at hen hgo hck
      replace hC := Lib.hid hC
      replace hEE := Lib.hid hEE
      go_wp2_with fail
      refine hen.mono ?_
      rintro e w7 ⟨v7, rfl, o7, -, x7⟩
      have R7 := R3.mod x7 (fun h => h) (fun _ _ _ h => h)
      have o8 := o3.ext x7
      have xw := ext_trans x3 x7
      have f8 : Fresh w.heap.size t := fun k hk => by have := f3 k hk; have := hg.out; omega
      have cv1 := run_conv (P := Try.prog) Try.underlying30 Try.underlying5 Try.underlying9 o7.sl
      have cv2 := cvb _ xw
      obtain ⟨r0, r1⟩ := R7.blk.c1
      clear hen R3 o3 x3 x7 hll hwl cvb
      cases st
      case none =>
        simp only [Option.isNone_none] at r1
        clear hck
        go_wp2_with fail
        go_ret2
        exact ⟨_, [], 3, rfl, .inr ⟨fun hM => (hgo hM).1 rfl, rfl, rfl⟩, OwnR.nil _ _ _ _, fresh_nil _ _ _, xw⟩
      simp only [Option.isNone_some] at r1
      by_cases hC0 : C = 0
      case neg =>
        have hb1 : ((C : Int) != 0) = true := by rw [bne_iff_ne]; omega
        clear hck
        go_wp2_with fail
        go_ret2
        exact ⟨_, [], 3, rfl, .inr ⟨fun hM => hC0 (hgo hM).2.1, rfl, rfl⟩, OwnR.nil _ _ _ _, fresh_nil _ _ _, xw⟩
      have hb1 : ((C : Int) != 0) = false := by rw [bne_eq_false_iff_eq]; omega
      by_cases hQ : EE = b
      · have hbb : (EE == b) = true := by rw [hQ]; exact beq_self_eq_true _
        have hcb := Lib.hid (hck hC0 hQ)
        clear hck hgo hQ hC0
        go_wp2_with fail
        go_ret2
        exact ⟨_, l, 0, rfl, .inl ⟨hcb.out, rfl⟩, o8, f8, xw⟩
      have hbb : (EE == b) = false := beq_eq_false_iff_ne.2 hQ
      clear hck hC0
      go_wp2_with fail
      go_ret2
      exact ⟨_, [], 3, rfl, .inr ⟨fun hM => hQ (hgo hM).2.2, rfl, rfl⟩, OwnR.nil _ _ _ _, fresh_nil _ _ _, xw⟩
    have hbn : decide ((k : Int) < (n : Int)) = true := dtrue (by omega)
    cases hsk : stK takeD s0 k
    case none =>
      have hgo : (∃ M, canB b M) → stK takeD s0 k ≠ none ∧ chkR (lsK takeD s0 k) = 0 ∧ encR10 (lsK takeD s0 k) = b := by
        rintro ⟨M, hM⟩
        obtain ⟨h1, ⟨_, h2⟩, h3⟩ := can_end reads_D hM hns.out hk
        have hkn : k = n := by rw [hsk] at h2; cases h2
        obtain ⟨h4, h5⟩ := h3 hkn
        rw [h4, h5]
        exact ⟨(fun h => by cases h), hM.1, by unfold encR10; rw [if_pos hM.1]; exact hM.2⟩
      have hll := lsK_len takeD s0 k
      have hlr := eats_all eats_D s0 k
      obtain ⟨l, hl⟩ : ∃ l, l = lsK takeD s0 k := ⟨_, rfl⟩
      obtain ⟨st, hst⟩ : ∃ st, st = stK takeD s0 k := ⟨_, rfl⟩
      rw [← hl] at o3 hgo hll hlr
      rw [← hst] at R3 hgo hlr
      obtain ⟨t, ht⟩ : ∃ t, t = u6 := ⟨_, rfl⟩
      subst ht
      rw [← hst] at hsk
      obtain ⟨q0, q1⟩ := R3.blk.c1
      rw [hsk, Option.isNone_none] at q1
      clear hsk
      replace hl := Lib.hid hl
      replace hst := Lib.hid hst
      have hwl : wR l ≤ 1000000000 := by rw [wR_eq, hll]; omega
      have hen := rbencode_any o3.rc hwl
      have hck : chkR l = 0 → encR10 l = b → canB b l := fun h1 h2 => ⟨h1, by unfold encR10 at h2; rwa [if_pos h1] at h2⟩
      obtain ⟨C, hC⟩ : ∃ C, C = chkR l := ⟨_, rfl⟩
      obtain ⟨EE, hEE⟩ : ∃ E, E = encR10 l := ⟨_, rfl⟩
      rw [← hC, ← hEE] at hen hgo hck
      replace hC := Lib.hid hC
      replace hEE := Lib.hid hEE
      go_wp2_with fail
      refine hen.mono ?_
      rintro e w7 ⟨v7, rfl, o7, -, x7⟩
      have R7 := R3.mod x7 (fun h => h) (fun _ _ _ h => h)
      have o8 := o3.ext x7
      have xw := ext_trans x3 x7
      have f8 : Fresh w.heap.size t := fun k hk => by have := f3 k hk; have := hg.out; omega
      have cv1 := run_conv (P := Try.prog) Try.underlying30 Try.underlying5 Try.underlying9 o7.sl
      have cv2 := cvb _ xw
      obtain ⟨r0, r1⟩ := R7.blk.c1
      clear hen R3 o3 x3 x7 hll hwl cvb
      cases st
      case none =>
        simp only [Option.isNone_none] at r1
        clear hck
        go_wp2_with fail
        go_ret2
        exact ⟨_, [], 3, rfl, .inr ⟨fun hM => (hgo hM).1 rfl, rfl, rfl⟩, OwnR.nil _ _ _ _, fresh_nil _ _ _, xw⟩
      simp only [Option.isNone_some] at r1
      by_cases hC0 : C = 0
      case neg =>
        have hb1 : ((C : Int) != 0) = true := by rw [bne_iff_ne]; omega
        clear hck
        go_wp2_with fail
        go_ret2
        exact ⟨_, [], 3, rfl, .inr ⟨fun hM => hC0 (hgo hM).2.1, rfl, rfl⟩, OwnR.nil _ _ _ _, fresh_nil _ _ _, xw⟩
      have hb1 : ((C : Int) != 0) = false := by rw [bne_eq_false_iff_eq]; omega
      by_cases hQ : EE = b
      · have hbb : (EE == b) = true := by rw [hQ]; exact beq_self_eq_true _
        have hcb := Lib.hid (hck hC0 hQ)
        clear hck hgo hQ hC0
        go_wp2_with fail
        go_ret2
        exact ⟨_, l, 0, rfl, .inl ⟨hcb.out, rfl⟩, o8, f8, xw⟩
      have hbb : (EE == b) = false := beq_eq_false_iff_ne.2 hQ
      clear hck hC0
      go_wp2_with fail
      go_ret2
      exact ⟨_, [], 3, rfl, .inr ⟨fun hM => hQ (hgo hM).2.2, rfl, rfl⟩, OwnR.nil _ _ _ _, fresh_nil _ _ _, xw⟩

    rename_i lk
    obtain ⟨r0, r1⟩ := R3.blk.c1
    rw [hsk, Option.isNone_some] at r1
    have hkr2 := hkr (by rw [hsk]; exact fun h => by cases h)
    have hlk := lsK_len takeD s0 k
    have hes := (eats_D (stK takeD s0 k)).2 lk hsk
    have hs1 : stK takeD s0 (k + 1) = (takeD (stK takeD s0 k)).2 := rfl
    have hs2 : lsK takeD s0 (k + 1) = lsK takeD s0 k ++ [(takeD (stK takeD s0 k)).1] := rfl
    have hkr3 : stK takeD s0 (k + 1) ≠ none → k + 1 + remS (stK takeD s0 (k + 1)) ≤ b.length := fun h => by
      rw [hs1] at h ⊢
      have := hes h
      omega
    have tb1 := takeB_both (stK takeD s0 k)
    have tb2 := takeN_len (takeB (stK takeD s0 k)).2
    have hbc1 := rrbytes_any R3 (by unfold remS at hkr2; omega)
    have htD : takeD (stK takeD s0 k) = (if (takeN (takeB (stK takeD s0 k)).2).1 = 0 then (⟨(takeB (stK takeD s0 k)).1, (takeB (takeN (takeB (stK takeD s0 k)).2).2).1, false⟩, (takeB (takeN (takeB (stK takeD s0 k)).2).2).2) else (⟨(takeB (stK takeD s0 k)).1, [], decide ((takeN (takeB (stK takeD s0 k)).2).1 = 1)⟩, (takeN (takeB (stK takeD s0 k)).2).2)) := rfl
    rw [htD] at hs1 hs2
    clear hes hkr htD
    obtain ⟨s9, hS9⟩ : ∃ s9, s9 = stK takeD s0 (k + 1) := ⟨_, rfl⟩
    obtain ⟨l9, hL9⟩ : ∃ l9, l9 = lsK takeD s0 (k + 1) := ⟨_, rfl⟩
    rw [← hS9] at hs1 hkr3
    rw [← hL9] at hs2
    replace hS9 := Lib.hid hS9
    replace hL9 := Lib.hid hL9

    have tb3 := takeB_both (takeN (takeB (stK takeD s0 k)).2).2
    generalize hk1 : takeB (stK takeD s0 k) = kk at *
    obtain ⟨key, s1⟩ := kk
    dsimp only at *
    generalize hk2 : takeN s1 = nn at *
    obtain ⟨m, s2⟩ := nn
    dsimp only at *
    generalize hk3 : takeB s2 = vv at *
    obtain ⟨val, s3⟩ := vv
    dsimp only at *
    unfold remS at tb1 tb3 hkr2
    replace hs1 := Lib.hid hs1
    replace hs2 := Lib.hid hs2
    replace hlk := Lib.hid hlk
    replace hkr3 := Lib.hid hkr3
    replace hk3 := Lib.hid hk3
    replace hk2 := Lib.hid hk2
    have hgw := R3.blk.lt
    clear hk1 hsk
    go_wp2_with fail
    refine hbc1.mono ?_
    rintro e w4 ⟨v4, y4, rfl, R4, o4, f4, m4⟩
    have cv := run_conv (P := Try.prog) Try.underlying30 Try.underlying5 Try.underlying9 o4.sl
    have hz4 := m4.size
    obtain ⟨w5, hw5⟩ : ∃ w5, w5 = w4.alloc (.cells #[sv key, sv [], .bool false] 82) := ⟨_, rfl⟩
    have B5 : Blk w5 w4.heap.size 82 #[sv key, sv [], .bool false] := by rw [hw5]; exact Blk.new w4 _ _
    have x5 : Ext w4 w5 := by rw [hw5]; exact (Mod.refl _ w4).alloc _
    obtain ⟨gx, hgx⟩ : ∃ gx, gx = w4.heap.size := ⟨_, rfl⟩
    rw [← hgx] at B5
    have hxg : gx ≠ g := by omega
    have R5 := R4.mod x5 (fun h => h) (fun _ _ _ h => h)
    have M5 : Mod (fun b => b = g ∨ b = gx) wr w5 := (m4.mono (fun _ _ h => .inl h)).then_ x5 (fun _ _ h => h.elim)
    have hnm := rrnum_any R5 (by omega)
    rw [hk2.out] at hnm
    have hSx : ∀ b, T b → ¬ b = gx := fun b hb e => by have := hSg b hb; omega
    have hgg : w4.heap.size ≤ gx := by omega
    replace hw5 := Lib.hid hw5
    replace hgx := Lib.hid hgx
    clear R3 R4 o4 f4 m4 x5 hbc1
    go_upto_region 8 with fail
    rw [← hw5.out, ← hgx.out]
    go_wp2_with fail
    refine hnm.mono ?_
    rintro e w6 ⟨v6, rfl, R6, m6⟩
    have B6 := B5.mod m6 hxg
    have M6 := M5.then_ m6 (fun _ _ h => .inl h)
    have fz := Blk.frozen B6 2
    have ez : _ = some _ := Blk.cell B6 2
    clear B5 R5 M5 m6 hnm cv
    by_cases h0 : m = 0
    case pos =>
      have hq1 : ((m : Int) == 1) = false := by rw [beq_eq_false_iff_ne]; omega
      have hq0 : ((m : Int) == 0) = true := by rw [beq_iff_eq]; omega
      have hr := Lib.hid (show (if m = 0 then ((⟨key, val, false⟩ : Ro), s3) else ((⟨key, [], decide (m = 1)⟩ : Ro), s2)) = ((⟨key, val, false⟩ : Ro), s3) from if_pos h0)
      obtain ⟨w7, hw7⟩ : ∃ w7, w7 = w6.setCell ⟨gx, 2, none⟩ (.bool false) := ⟨_, rfl⟩
      have m7 := set1_mod w6 gx 2 (.bool false)
      have B7 := B6.set_ 2 (.bool false)
      rw [← hw7] at m7 B7
      have R7 := R6.mod m7 (fun e => hxg e.symm) (fun b _ hb => hSx b hb)
      have M7 := M6.then_ m7 (fun _ _ h => .inr h)
      have hb3 := rrbytes_any R7 (by omega)
      rw [hk3.out] at hb3
      replace hw7 := Lib.hid hw7
      clear B6 R6 M6 h0 m7
      go_upto_region 10 with fail
      rw [← hw7.out]
      go_wp2_with fail
      refine hb3.mono ?_
      rintro e w8 ⟨v8, y8, rfl, R8, o8, f8, m8⟩
      have cv := run_conv (P := Try.prog) Try.underlying30 Try.underlying5 Try.underlying9 o8.sl
      have B8 := B7.mod m8 hxg
      have M8 := M7.then_ m8 (fun _ _ h => .inl h)
      have fy := Blk.frozen B8 1
      have ey : _ = some _ := Blk.cell B8 1
      obtain ⟨w9, hw9⟩ : ∃ w9, w9 = w8.setCell ⟨gx, 1, none⟩ (sv val) := ⟨_, rfl⟩
      have m9 := set1_mod w8 gx 1 (sv val)
      have B9 := B8.set_ 1 (sv val)
      rw [← hw9] at m9 B9
      have R9 := R8.mod m9 (fun e => hxg e.symm) (fun b _ hb => hSx b hb)
      have M9 := M8.then_ m9 (fun _ _ h => .inr h)
      have d0 : w9.cell? ⟨gx, 0, none⟩ = some (sv key) := B9.cell 0
      have d1 : w9.cell? ⟨gx, 1, none⟩ = some (sv val) := B9.cell 1
      have d2 : w9.cell? ⟨gx, 2, none⟩ = some (.bool false) := B9.cell 2
      have o9 := o3.mod M9 (fun b hb e => by
        have h1 := f3 b hb
        have h2 := o3.lt hb
        rcases e with e | e <;> omega)
      have x9 : Ext w w9 := x3.trans M9 (fun _ _ h => h) (fun b hb e => by have := hg.out; have := x3.size; rcases e with e | e <;> omega)
      have hg9 := R9.blk.lt
      replace hw9 := Lib.hid hw9
      clear B7 R7 M7 hb3 R8 o8 f8 m8 B8 M8 m9 B9 o3
      go_upto_region 12 with fail
      rw [← hw9.out]
      go_wp2_with ((with_reducible show wpList _ _ _ (⟨some 47, _, _, _, _, _⟩ :: _) _ _); refine wp_appR tyW rol_len (x := ⟨key, val, false⟩) o9 rfl (rol_ok _) (by rw [hlk.out]; omega) rfl _ _ rfl rfl rfl ?_; intro va wa oa ma na)
      have e9 : s9 = s3 := by rw [hs1.out, hr.out]
      have el : l9 = lsK takeD s0 k ++ [⟨key, val, false⟩] := by rw [hs2.out, hr.out]
      rw [← el] at oa
      rw [← e9] at R9
      exact ⟨⟨k + 1, v8, by omega, by go_num, by rw [← hS9.out]; exact hkr3.out, by omega, by rw [← hS9.out]; exact R9.mod ma (fun h => by have := f3 _ h; omega) (fun b _ hb h => by have := f3 _ h; have := hSg b hb; omega), by rw [← hL9.out]; exact oa, na.fresh f3 (by omega), x9.trans ma (fun _ _ h => h) (fun b hb h => by have := f3 _ h; have := hg.out; omega)⟩, by simp [intOf] <;> omega⟩
    have hq0 : ((m : Int) == 0) = false := by rw [beq_eq_false_iff_ne]; omega
    have hr := Lib.hid (show (if m = 0 then ((⟨key, val, false⟩ : Ro), s3) else ((⟨key, [], decide (m = 1)⟩ : Ro), s2)) = ((⟨key, [], decide (m = 1)⟩ : Ro), s2) from if_neg h0)
    obtain ⟨q, hq⟩ : ∃ q, q = decide (m = 1) := ⟨_, rfl⟩
    have hq1 : ((m : Int) == 1) = q := by rw [hq, Bool.eq_iff_iff, beq_iff_eq, decide_eq_true_eq]; omega
    rw [← hq] at hr hs1 hs2
    clear hq
    obtain ⟨w7, hw7⟩ : ∃ w7, w7 = w6.setCell ⟨gx, 2, none⟩ (.bool q) := ⟨_, rfl⟩
    have m7 := set1_mod w6 gx 2 (.bool q)
    have B7 := B6.set_ 2 (.bool q)
    rw [← hw7] at m7 B7
    have R7 := R6.mod m7 (fun e => hxg e.symm) (fun b _ hb => hSx b hb)
    have M7 := M6.then_ m7 (fun _ _ h => .inr h)
    have d0 : w7.cell? ⟨gx, 0, none⟩ = some (sv key) := B7.cell 0
    have d1 : w7.cell? ⟨gx, 1, none⟩ = some (sv []) := B7.cell 1
    have d2 : w7.cell? ⟨gx, 2, none⟩ = some (.bool q) := B7.cell 2
    have o7 := o3.mod M7 (fun b hb e => by
      have h1 := f3 b hb
      have h2 := o3.lt hb
      rcases e with e | e <;> omega)
    have x7 : Ext w w7 := x3.trans M7 (fun _ _ h => h) (fun b hb e => by have := hg.out; have := x3.size; rcases e with e | e <;> omega)
    have hg7 := R7.blk.lt
    replace hw7 := Lib.hid hw7
    clear B6 R6 M6 h0 m7 B7 o3
    go_upto_region 10 with fail
    rw [← hw7.out]
    go_wp2_with ((with_reducible show wpList _ _ _ (⟨some 47, _, _, _, _, _⟩ :: _) _ _); refine wp_appR tyW rol_len (x := ⟨key, [], q⟩) o7 rfl (rol_ok _) (by rw [hlk.out]; omega) rfl _ _ rfl rfl rfl ?_; intro va wa oa ma na)
    have e9 : s9 = s2 := by rw [hs1.out, hr.out]
    have el : l9 = lsK takeD s0 k ++ [⟨key, [], q⟩] := by rw [hs2.out, hr.out]
    rw [← el] at oa
    rw [← e9] at R7
    have R9 := R7
    exact ⟨⟨k + 1, v6, by omega, by go_num, by rw [← hS9.out]; exact hkr3.out, by omega, by rw [← hS9.out]; exact R9.mod ma (fun h => by have := f3 _ h; omega) (fun b _ hb h => by have := f3 _ h; have := hSg b hb; omega), by rw [← hL9.out]; exact oa, na.fresh f3 (by omega), x7.trans ma (fun _ _ h => h) (fun b hb h => by have := f3 _ h; have := hg.out; omega)⟩, by simp [intOf] <;> omega⟩
end Go.Proofs.Ytlfooppmdgddkaa
