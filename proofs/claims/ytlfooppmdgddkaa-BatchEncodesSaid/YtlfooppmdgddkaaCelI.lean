/- block: the laws Looks and Order. -/
import Derived.Test.YtlfooppmdgddkaaCelH
import Derived.WideShapes
import Derived.Deep.DeepCutAuto
namespace Go.Proofs.Ytlfooppmdgddkaa
open Go.RowKit Go.WideShapes Go.ChangeShapes
set_option maxRecDepth 100000

section
variable {H : Type} {enc : TypeId × Value → H} {W : World} {base : Nat} {spare : Nat → Bool} {held : Bool} {v : Value} {d : DataW H} {p : List MemPlace}
theorem cell_each (cs : List Value) (x : DataW H × List MemPlace) (n : Nat) (h : DataW.trod enc Try.prog W base spare held n 23 cs = some x) (hl : Light Try.prog 23 x.1) :
    ∃ c : Ce, cs = cel c ∧ CFits c := by
  obtain ⟨xs, m, _, rfl, hlen, hxl, hfi⟩ := DataW.trod_struct Try.underlying23 h
  have hc : Try.prog.cellsOf 23 = 4 := by kernel_rfl
  match xs, hxl, cs, hlen.trans hc with
  | [y0, y1, y2, y3], _, [v0, v1, v2, v3], _ =>
    have k1 : Try.prog.cellsOf 3 = 1 := by kernel_rfl
    have k3 : Try.prog.cellsOf 4 = 1 := by kernel_rfl
    have k4 : Try.prog.cellsOf 9 = 1 := by kernel_rfl
    have g0 : DataW.trod enc Try.prog W base spare held m 9 (([v0, v1, v2, v3].drop 0).take (Try.prog.cellsOf 9)) = some y0 := hfi 0 _ rfl
    rw [k4] at g0
    replace g0 : DataW.trod enc Try.prog W base spare held m 9 [v0] = some y0 := g0
    have g1 : DataW.trod enc Try.prog W base spare held m 9 (([v0, v1, v2, v3].drop 1).take (Try.prog.cellsOf 9)) = some y1 := hfi 1 _ rfl
    rw [k4] at g1
    replace g1 : DataW.trod enc Try.prog W base spare held m 9 [v1] = some y1 := g1
    have g2 : DataW.trod enc Try.prog W base spare held m 4 (([v0, v1, v2, v3].drop 2).take (Try.prog.cellsOf 4)) = some y2 := hfi 2 _ rfl
    rw [k3] at g2
    replace g2 : DataW.trod enc Try.prog W base spare held m 4 [v2] = some y2 := g2
    have g3 : DataW.trod enc Try.prog W base spare held m 3 (([v0, v1, v2, v3].drop 3).take (Try.prog.cellsOf 3)) = some y3 := hfi 3 _ rfl
    rw [k1] at g3
    replace g3 : DataW.trod enc Try.prog W base spare held m 3 [v3] = some y3 := g3
    obtain ⟨x0, q0, z0, _⟩ := DataW.trod_string Try.underlying9 g0
    obtain ⟨x1, q1, z1, _⟩ := DataW.trod_string Try.underlying9 g1
    obtain ⟨b2, q2, _⟩ := DataW.trod_bool Try.underlying4 g2
    obtain ⟨n3, q3, _, _⟩ := DataW.trod_int Try.underlying3 g3
    have l0 := Light.part (j := 0) Try.underlying23 hl rfl rfl
    have l1 := Light.part (j := 1) Try.underlying23 hl rfl rfl
    rw [z0] at l0
    rw [z1] at l1
    injection q0 with q0
    injection q1 with q1
    injection q2 with q2
    injection q3 with q3
    exact ⟨⟨x0.data.toList, x1.data.toList, b2, n3⟩, by rw [q0, q1, q2, q3, sv_of x0, sv_of x1], l0.str, l1.str⟩
theorem cells_in (h : DataW.Trod enc Try.prog W base spare held 28 v d p) (hv : ∃ a len cap, v = .slice a len cap) (hl : Light Try.prog 28 d) :
    ∃ L, Cs W (fun _ => True) v L ∧ LFits L := by
  obtain ⟨L, h1, h2, h3⟩ := recs_in cel cel_len CFits Try.underlying28 (by kernel_rfl) (bts := 48) (by kernel_rfl) cell_each hv h hl
  exact ⟨L, h1, h2, h3⟩
theorem cell_in {r : Reach} {b0 : Nat} (h : DataW.Trod enc Try.prog W base spare held 23 v d p) (hv : Value.okWide Try.prog W r b0 23 v) (hl : Light Try.prog 23 d) :
    ∃ c : Ce, v = .agg (car c) ∧ CFits c := by
  obtain ⟨cs, rfl, hsz⟩ := okWide_struct Try.underlying23 hv
  obtain ⟨fuel, hf⟩ := h
  obtain ⟨c, h1, h2⟩ := cell_each _ _ _ hf hl
  have : cs = car c := by
    apply Array.toList_inj.1
    simpa [Value.cells] using h1
  exact ⟨c, by rw [this], h2⟩
end

theorem less_asym : ∀ (x y : List UInt8), x ≠ y → Op.bytesLess x y = !Op.bytesLess y x
  | [], [], h => absurd rfl h
  | [], _ :: _, _ => rfl
  | _ :: _, [], _ => rfl
  | a :: x, b :: y, h => by
    show (decide (a < b) || (a == b && Op.bytesLess x y)) = !(decide (b < a) || (b == a && Op.bytesLess y x))
    by_cases hab : a = b
    · subst hab
      rw [decide_eq_false (by simp), beq_self_eq_true, less_asym x y (fun e => h (by rw [e]))]
      simp
    · rw [beq_eq_false_iff_ne.2 hab, beq_eq_false_iff_ne.2 (Ne.symm hab)]
      have : decide (b < a) = !decide (a < b) := by
        by_cases h1 : a < b
        · have h2 : ¬ b < a := by rw [UInt8.lt_iff_toNat_lt] at *; omega
          rw [decide_eq_true h1, decide_eq_false h2]; rfl
        · have h2 : b < a := by
            have : a.toNat ≠ b.toNat := fun e => hab (UInt8.toNat_inj.1 e)
            rw [UInt8.lt_iff_toNat_lt] at *; omega
          rw [decide_eq_false h1, decide_eq_true h2]; rfl
      rw [this]
      simp
theorem less_trans : ∀ (x y z : List UInt8), Op.bytesLess x y = true → Op.bytesLess y z = true → Op.bytesLess x z = true
  | [], [], _, h, _ => by cases h
  | _ :: _, [], _, h, _ => by cases h
  | [], _ :: _, [], _, h => by cases h
  | _ :: _, _ :: _, [], _, h => by cases h
  | [], _ :: _, _ :: _, _, _ => rfl
  | a :: x, b :: y, c :: z, h1, h2 => by
    have e1 : (decide (a < b) || (a == b && Op.bytesLess x y)) = true := h1
    have e2 : (decide (b < c) || (b == c && Op.bytesLess y z)) = true := h2
    show (decide (a < c) || (a == c && Op.bytesLess x z)) = true
    simp only [Bool.or_eq_true, Bool.and_eq_true, decide_eq_true_eq, beq_iff_eq] at *
    rcases e1 with e1 | ⟨rfl, e1⟩
    · left
      rcases e2 with e2 | ⟨rfl, _⟩
      · rw [UInt8.lt_iff_toNat_lt] at *; omega
      · exact e1
    · rcases e2 with e2 | ⟨rfl, e2⟩
      · exact .inl e2
      · exact .inr ⟨rfl, less_trans x y z e1 e2⟩
theorem lessC_one {a b : Ce} (h : a.key = b.key ∧ a.seq = b.seq) : lessC a b = false := by
  unfold lessC
  rw [if_pos h.1, h.2, decide_eq_false (by omega)]
theorem lessC_other {a b : Ce} (h : ¬ (a.key = b.key ∧ a.seq = b.seq)) : lessC a b = !lessC b a := by
  unfold lessC
  by_cases hk : a.key = b.key
  · rw [if_pos hk, if_pos hk.symm]
    have hs : a.seq ≠ b.seq := fun e => h ⟨hk, e⟩
    by_cases h1 : b.seq < a.seq
    · rw [decide_eq_true h1, decide_eq_false (by omega)]; rfl
    · rw [decide_eq_false h1, decide_eq_true (by omega)]; rfl
  · rw [if_neg hk, if_neg (Ne.symm hk)]
    exact less_asym _ _ hk
theorem lessC_trans {a b c : Ce} (h1 : lessC a b = true) (h2 : lessC b c = true) : lessC a c = true := by
  unfold lessC at *
  by_cases hab : a.key = b.key
  · rw [if_pos hab] at h1
    by_cases hbc : b.key = c.key
    · rw [if_pos hbc] at h2
      rw [if_pos (hab.trans hbc)]
      have := of_decide_eq_true h1
      have := of_decide_eq_true h2
      exact decide_eq_true (by omega)
    · rw [if_neg hbc] at h2
      rw [if_neg (by rw [hab]; exact hbc), hab]
      exact h2
  · rw [if_neg hab] at h1
    by_cases hbc : b.key = c.key
    · rw [if_neg (by rw [← hbc]; exact hab), ← hbc]
      exact h1
    · rw [if_neg hbc] at h2
      have h3 := less_trans _ _ _ h1 h2
      by_cases hac : a.key = c.key
      · rw [hac, less_self] at h3; cases h3
      · rw [if_neg hac]; exact h3

set_option maxHeartbeats 16000000 in
theorem blockLooks_walk {w : World} {a b : Ce} (fa : CFits a) (fb : CFits b) :
    Calls Try.prog 3 #[.agg (car a), .agg (car b)] w fun e w' => e = .returned (.bool true) ∧ Ext w w' := by
  obtain ⟨w0, hw0⟩ : ∃ w0, w0 = (w.alloc (.cells (car a) 23)).alloc (.cells (car b) 23) := ⟨_, rfl⟩
  have x0 : Ext w w0 := by rw [hw0]; exact ((Mod.refl _ w).alloc _).alloc _
  have A0 : Blk w0 w.heap.size 23 (car a) := by rw [hw0]; exact (Blk.new w _ _).alloc _
  have B0 : Blk w0 (w.heap.size + 1) 23 (car b) := by
    rw [hw0]
    have := Blk.new (w.alloc (.cells (car a) 23)) 23 (car b)
    simpa using this
  replace hw0 := Lib.hid hw0
  have hc : ∀ {wx : World}, Ext w0 wx → wx.cell? ⟨w.heap.size, 0, none⟩ = some (sv a.key) ∧ wx.cell? ⟨w.heap.size, 1, none⟩ = some (sv a.val) ∧ wx.cell? ⟨w.heap.size, 2, none⟩ = some (.bool a.del) ∧ wx.cell? ⟨w.heap.size, 3, none⟩ = some (.int .i64 a.seq) ∧ wx.cell? ⟨w.heap.size + 1, 0, none⟩ = some (sv b.key) ∧ wx.cell? ⟨w.heap.size + 1, 1, none⟩ = some (sv b.val) ∧ wx.cell? ⟨w.heap.size + 1, 2, none⟩ = some (.bool b.del) ∧ wx.cell? ⟨w.heap.size + 1, 3, none⟩ = some (.int .i64 b.seq) := fun hx => ⟨Blk.cell (A0.mod hx (fun h => h)) 0, Blk.cell (A0.mod hx (fun h => h)) 1, Blk.cell (A0.mod hx (fun h => h)) 2, Blk.cell (A0.mod hx (fun h => h)) 3, Blk.cell (B0.mod hx (fun h => h)) 0, Blk.cell (B0.mod hx (fun h => h)) 1, Blk.cell (B0.mod hx (fun h => h)) 2, Blk.cell (B0.mod hx (fun h => h)) 3⟩
  obtain ⟨c0, c1, c2, c3, d0, d1, d2, d3⟩ := hc (Mod.refl _ w0)
  obtain ⟨fa1, fa2⟩ := fa
  obtain ⟨fb1, fb2⟩ := fb
  have za := sv_size a.key
  have zb := sv_size a.val
  have zc := sv_size b.key
  have zd := sv_size b.val
  have q0 : Ext w0 w0.drew := (Mod.refl _ w0).drew
  have hless := fun wx => less_any (w := wx) a b
  have hrless := fun wx => rless_any (w := wx) a b
  have his := fun wx => is_any (w := wx) a
  have hris := fun wx => ris_any (w := wx) a
  have hsize := fun wx => size_any (w := wx) a ⟨fa1, fa2⟩
  have hrsize := fun wx => rsize_any (w := wx) a ⟨fa1, fa2⟩
  obtain ⟨l, hl⟩ : ∃ l, l = lessC a b := ⟨_, rfl⟩
  obtain ⟨s, hs⟩ : ∃ s, s = decide (isC a) := ⟨_, rfl⟩
  obtain ⟨z, hz⟩ : ∃ z, z = a.key.length + a.val.length + 16 := ⟨_, rfl⟩
  rw [← hl] at hless hrless
  rw [← hs] at his hris
  rw [← hz] at hsize hrsize
  have ll : (l == l) = true := by cases l <;> rfl
  have ss : (s == s) = true := by cases s <;> rfl
  have zz : ((z : Int) == (z : Int)) = true := beq_self_eq_true _
  clear hl hs hz
  have hkn := fun wx => known7_any (w := wx)
  go_enter Try.func3, Try.ntmps3
  go_upto_region 1 with fail
  rw [← hw0.out]
  by_cases hbig : 40000 < a.key.length + a.val.length + b.key.length + b.val.length
  · have hb : decide ((40000 : Int) < (a.key.length : Int) + (a.val.length : Int) + (b.key.length : Int) + (b.val.length : Int)) = true := dtrue (by omega)
    go_wp2_with fail
    go_ret
    exact ⟨rfl, x0⟩
  have hb : decide ((40000 : Int) < (a.key.length : Int) + (a.val.length : Int) + (b.key.length : Int) + (b.val.length : Int)) = false := dfalse (by omega)
  go_wp2_with fail
  go_region_held3 (fun w' => w'.cell? ⟨w.heap.size, 0, none⟩ = some (sv a.key) ∧ w'.cell? ⟨w.heap.size, 1, none⟩ = some (sv a.val) ∧ w'.cell? ⟨w.heap.size, 2, none⟩ = some (.bool a.del) ∧ w'.cell? ⟨w.heap.size, 3, none⟩ = some (.int .i64 a.seq) ∧ w'.cell? ⟨w.heap.size + 1, 0, none⟩ = some (sv b.key) ∧ w'.cell? ⟨w.heap.size + 1, 1, none⟩ = some (sv b.val) ∧ w'.cell? ⟨w.heap.size + 1, 2, none⟩ = some (.bool b.del) ∧ w'.cell? ⟨w.heap.size + 1, 3, none⟩ = some (.int .i64 b.seq)) (first | exact hc q0 | exact hc q1 | exact hc q2 | exact hc q3 | exact hc q4 | exact hc q5 | exact hc q6 | exact hc q7) (first
    | (go_at_call 20; (with_reducible refine (hless _).mono ?_); rintro e w1 ⟨rfl, x1⟩; have q1 := ext_trans q0 x1)
    | (go_at_call 21; (with_reducible refine (hrless _).mono ?_); rintro e w2 ⟨rfl, x2⟩; have q2 := ext_trans q1 x2)
    | (go_at_call 22; (with_reducible refine (his _).mono ?_); rintro e w3 ⟨rfl, x3⟩; have q3 := ext_trans q2 x3)
    | (go_at_call 23; (with_reducible refine (hris _).mono ?_); rintro e w4 ⟨rfl, x4⟩; have q4 := ext_trans q3 x4)
    | (go_at_call 24; (with_reducible refine (hsize _).mono ?_); rintro e w5 ⟨rfl, x5⟩; have q5 := ext_trans q4 x5)
    | (go_at_call 25; (with_reducible refine (hrsize _).mono ?_); rintro e w6 ⟨rfl, x6⟩; have q6 := ext_trans q5 x6)
    | (go_at_call 26; (with_reducible refine (hkn _).mono ?_); rintro e w7 ⟨rfl, x7⟩; have q7 := ext_trans q6 x7))
  all_goals go_wp2_with fail
  all_goals go_ret
  all_goals exact ⟨rfl, ext_trans x0 q7⟩
end Go.Proofs.Ytlfooppmdgddkaa
