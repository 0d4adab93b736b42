/- dn: the law Blanks. -/
import Derived.Test.YtbdkdbfcbakgmaaDnPQ
import Derived.Test.YtbdkdbfcbakgmaaRecIn
import Derived.WideShapes
import Derived.Deep.DeepCutAuto
import Derived.Deep.RegionHeld3
namespace Go.Proofs.Ytbdkdbfcbakgmaa
open Go.RowKit Go.WideShapes
set_option maxRecDepth 100000

section
variable {H : Type} {enc : TypeId × Value → H} {W : World} {base : Nat} {spare : Nat → Bool} {held : Bool} {v : Value} {d : DataW H} {p : List MemPlace}
theorem ava_in {r : Reach} {b0 : Nat} (h : DataW.Trod enc Try.prog W base spare held 37 v d p) (hv : Value.okWide Try.prog W r b0 37 v) (hl : Light Try.prog 37 d) :
    ∃ a : Av, v = .agg #[sv a.1, sv a.2] ∧ (a.1.length ≤ 140737488351232 ∧ a.2.length ≤ 140737488351232) := by
  obtain ⟨cs, rfl, hsz⟩ := okWide_struct Try.underlying37 hv
  obtain ⟨fuel, hf⟩ := h
  obtain ⟨a, h1, h2⟩ := ava_each Try.underlying37 (by kernel_rfl) rfl rfl (by kernel_rfl) (by kernel_rfl) Try.underlying9 Try.underlying9 _ _ _ hf hl
  have : cs = #[sv a.1, sv a.2] := by
    apply Array.toList_inj.1
    simpa [Value.cells] using h1
  exact ⟨a, by rw [this], h2⟩
end
theorem as_one (w : World) (a : Av) : As (w.alloc (.cells #[sv a.1, sv a.2] 37)) (fun b => b = w.heap.size) (.slice (some ⟨w.heap.size, 0, none⟩) 1 1) [a] := SlK.one w 37 [sv a.1, sv a.2] 2 rfl
theorem as_two (w : World) (a b : Av) : As (w.alloc (.cells #[sv a.1, sv a.2, sv b.1, sv b.2] 37)) (fun k => k = w.heap.size) (.slice (some ⟨w.heap.size, 0, none⟩) 2 2) [a, b] :=
  ⟨_, _, rfl, Nat.le_refl _, by simp [maxLen], by simp, rfl, fun j u hu => ⟨_, rfl, rfl, by
    rw [add_lit, cell_of_row _ w.heap.size j _ 37 (0, 0) (heap_alloc_new w _)]
    have hu2 : ([sv a.1, sv a.2, sv b.1, sv b.2] : List Value)[j]? = some u := hu
    simpa using hu2⟩⟩
theorem cat7 (G X Y : List UInt8) : (⟨G.toArray⟩ : ByteArray) ++ ⟨X.toArray⟩ ++ ⟨G.toArray⟩ ++ ⟨#[44]⟩ ++ ⟨G.toArray⟩ ++ ⟨Y.toArray⟩ ++ ⟨G.toArray⟩ = ⟨(G ++ (X ++ (G ++ (44 :: (G ++ (Y ++ G)))))).toArray⟩ := by
  rw [show G ++ (X ++ (G ++ (44 :: (G ++ (Y ++ G))))) = G ++ X ++ G ++ [44] ++ G ++ Y ++ G by simp, ← cat_data, ← cat_data, ← cat_data, ← cat_data, ← cat_data, ← cat_data]
theorem cat1 (G : List UInt8) (x : UInt8) : (⟨G.toArray⟩ : ByteArray) ++ ⟨#[x]⟩ = ⟨(G ++ [x]).toArray⟩ := by rw [← cat_data]

set_option maxHeartbeats 8000000 in
theorem dnBlanks_walk {w : World} {a b : Av} {n : Int} (fa : a.1.length ≤ 140737488351232 ∧ a.2.length ≤ 140737488351232) (fb : b.1.length ≤ 140737488351232 ∧ b.2.length ≤ 140737488351232) :
    Calls Try.prog 8 #[.agg #[sv a.1, sv a.2], .agg #[sv b.1, sv b.2], .int .i64 n] w fun e w' => e = .returned (.bool true) ∧ Ext w w' := by
  have fab : Fits [a, b] := ⟨fun c hc => by simp only [List.mem_cons, List.not_mem_nil, or_false] at hc; rcases hc with rfl | rfl; exact fa; exact fb, by simp⟩
  obtain ⟨w0, hw0⟩ : ∃ w0, w0 = (w.alloc (.cells #[sv a.1, sv a.2] 37)).alloc (.cells #[sv b.1, sv b.2] 37) := ⟨_, rfl⟩
  have x0 : Ext w w0 := by rw [hw0]; exact ((Mod.refl _ w).alloc _).alloc _
  have A0 : Blk w0 w.heap.size 37 #[sv a.1, sv a.2] := by rw [hw0]; exact (Blk.new w _ _).alloc _
  have B0 : Blk w0 (w.heap.size + 1) 37 #[sv b.1, sv b.2] := by
    rw [hw0]
    have := Blk.new (w.alloc (.cells #[sv a.1, sv a.2] 37)) 37 #[sv b.1, sv b.2]
    simpa using this
  replace hw0 := Lib.hid hw0
  go_enter Try.func8, Try.ntmps8
  go_upto_region 1 with fail
  rw [← hw0.out]
  have hc : ∀ {wx : World}, Ext w0 wx → wx.cell? ⟨w.heap.size, 0, none⟩ = some (sv a.1) ∧ wx.cell? ⟨w.heap.size, 1, none⟩ = some (sv a.2) ∧ wx.cell? ⟨w.heap.size + 1, 0, none⟩ = some (sv b.1) ∧ wx.cell? ⟨w.heap.size + 1, 1, none⟩ = some (sv b.2) := fun hx => ⟨Blk.cell (A0.mod hx (fun h => h)) 0, Blk.cell (A0.mod hx (fun h => h)) 1, Blk.cell (B0.mod hx (fun h => h)) 0, Blk.cell (B0.mod hx (fun h => h)) 1⟩
  obtain ⟨c0, c1, c2, c3⟩ := hc (Mod.refl _ w0)
  go_wp2_with fail
  refine (heavy13_any (as_two w0 a b) fab).mono ?_
  rintro e w1 ⟨q, rfl, g0, x1⟩
  replace x1 := ext_trans ((Mod.refl (fun _ => False) w0).alloc _) x1
  cases q
  case true =>
    go_wp2_with fail
    go_ret
    exact ⟨rfl, ext_trans x0 x1⟩
  replace g0 := Lib.hid (g0 rfl)
  clear c0 c1 c2 c3
  obtain ⟨c0, c1, c2, c3⟩ := hc x1
  go_wp2_with fail
  refine (ris_any (as_two w1 a b) fab).mono ?_
  rintro e w2 ⟨rfl, hw2⟩
  have x2 : Ext w0 w2 := by rw [hw2]; exact x1.alloc _
  clear hw2 c0 c1 c2 c3
  obtain ⟨c0, c1, c2, c3⟩ := hc x2
  by_cases hn : isName [a, b]
  case neg =>
    rw [dfalse hn]
    go_wp2_with fail
    go_ret
    exact ⟨rfl, ext_trans x0 x2⟩
  rw [dtrue hn]
  by_cases hn0 : n < 0
  · have hb1 : decide (n < 0) = true := dtrue hn0
    go_wp2_with fail
    go_ret
    exact ⟨rfl, ext_trans x0 x2⟩
  have hb1 : decide (n < 0) = false := dfalse hn0
  by_cases hn20 : 20 < n
  · have hb2 : decide (20 < n) = true := dtrue hn20
    go_wp2_with fail
    go_ret
    exact ⟨rfl, ext_trans x0 x2⟩
  have hb2 : decide (20 < n) = false := dfalse hn20
  obtain ⟨N, rfl⟩ : ∃ N : Nat, n = (N : Int) := ⟨n.toNat, by omega⟩
  clear c0 c1 c2 c3
  go_wp2_with fail
  go_loopw [7, 8] (fun t i wr => ∃ k : Nat, k ≤ N ∧ i = .int .i64 k ∧ t = sv (List.replicate k 32) ∧ Ext w0 wr) (fun _ i _ => N - (intOf i).toNat)
  case atStart => exact ⟨0, Nat.zero_le _, rfl, rfl, x2⟩
  case round =>
    obtain ⟨k, hk, rfl, rfl, p2⟩ := hrel
    have hxl : (List.replicate k (32 : UInt8)).length = k := List.length_replicate
    have hxn : List.replicate (k + 1) (32 : UInt8) = List.replicate k 32 ++ [32] := List.replicate_succ'
    by_cases hlt : k < N
    · have hbl : decide ((k : Int) < (N : Int)) = true := dtrue (by omega)
      generalize List.replicate k (32 : UInt8) = X at *
      have hxs := sv_size X
      replace hxn := Lib.hid hxn
      have hcc : X.length ≤ 20 := by omega
      clear hxl
      go_wp2_with fail
      exact ⟨⟨k + 1, by omega, by go_num, by rw [hxn.out]; exact congrArg Value.string (cat1 _ _), p2⟩, by simp [intOf] <;> omega⟩
    have hbl : decide ((k : Int) < (N : Int)) = false := dfalse (by omega)
    obtain rfl : k = N := by omega
    have hwa : wN [a] ≤ 100000 := by have := g0.out; simp only [wN_cons] at this ⊢; omega
    have hwb : wN [b] ≤ 100000 := by have := g0.out; simp only [wN_cons] at this ⊢; omega
    have hla := printB_len [a]
    have hlb := printB_len [b]
    have hpar := parse_blanks hn k
    obtain ⟨PA, hPA⟩ : ∃ PA, PA = printB [a] := ⟨_, rfl⟩
    obtain ⟨PB, hPB⟩ : ∃ PB, PB = printB [b] := ⟨_, rfl⟩
    rw [← hPA, ← hPB] at hpar
    have pa : ∀ {wx : World} {T : Nat → Prop} {v : Value}, As wx T v [a] → Calls Try.prog 25 #[v] wx fun e w' => e = .returned (sv PA) ∧ Ext wx w' := fun h => by rw [hPA]; exact printW_any h hwa
    have pb : ∀ {wx : World} {T : Nat → Prop} {v : Value}, As wx T v [b] → Calls Try.prog 25 #[v] wx fun e w' => e = .returned (sv PB) ∧ Ext wx w' := fun h => by rw [hPB]; exact printW_any h hwb
    have lPA : PA.length ≤ 400000 := by rw [hPA]; omega
    have lPB : PB.length ≤ 400000 := by rw [hPB]; omega
    clear hla hlb hwa hwb
    generalize List.replicate k (32 : UInt8) = G at *
    have lG : G.length ≤ 20 := by omega
    replace hPA := Lib.hid hPA
    replace hPB := Lib.hid hPB
    clear hxn hxl x1 x2 hlt hbl hk
    have f1 := (as_one wr a).drewN 1
    have f2 := ((as_one wr a).ext ((Mod.refl (fun _ => False) _).alloc (.cells #[sv b.1, sv b.2] 37))).drewN 1
    have f3 := (as_one (wr.alloc (.cells #[sv b.1, sv b.2] 37)) a).drewN 1
    rw [show (wr.alloc (.cells #[sv b.1, sv b.2] 37)).heap.size = wr.heap.size + 1 by simp] at f3
    have g2 := (as_one (wr.alloc (.cells #[sv a.1, sv a.2] 37)) b).drewN 1
    rw [show (wr.alloc (.cells #[sv a.1, sv a.2] 37)).heap.size = wr.heap.size + 1 by simp] at g2
    have g3 := ((as_one wr b).ext ((Mod.refl (fun _ => False) _).alloc (.cells #[sv a.1, sv a.2] 37))).drewN 1
    have r1 : Calls Try.prog 25 #[.slice (some ⟨wr.heap.size, 0, none⟩) 1 1] (wr.alloc (.cells #[sv a.1, sv a.2] 37)).drew _ := pa f1
    have r2 : Calls Try.prog 25 #[.slice (some ⟨wr.heap.size, 0, none⟩) 1 1] ((wr.alloc (.cells #[sv a.1, sv a.2] 37)).alloc (.cells #[sv b.1, sv b.2] 37)).drew _ := pa f2
    have r3 : Calls Try.prog 25 #[.slice (some ⟨wr.heap.size + 1, 0, none⟩) 1 1] ((wr.alloc (.cells #[sv b.1, sv b.2] 37)).alloc (.cells #[sv a.1, sv a.2] 37)).drew _ := pa f3
    have s1 := fun wa => pb (as_one wa b)
    have q1 : Ext w0 (wr.alloc (.cells #[sv a.1, sv a.2] 37)).drew := (p2.alloc _).drew
    have q2 : Ext w0 ((wr.alloc (.cells #[sv a.1, sv a.2] 37)).alloc (.cells #[sv b.1, sv b.2] 37)).drew := ((p2.alloc _).alloc _).drew
    have q3 : Ext w0 ((wr.alloc (.cells #[sv b.1, sv b.2] 37)).alloc (.cells #[sv a.1, sv a.2] 37)).drew := ((p2.alloc _).alloc _).drew
    have q0 : Ext w0 wr.drew := p2.drew
    go_wp2_with fail
    go_region_held3 (fun w' => w'.cell? ⟨w.heap.size, 0, none⟩ = some (sv a.1) ∧ w'.cell? ⟨w.heap.size, 1, none⟩ = some (sv a.2) ∧ w'.cell? ⟨w.heap.size + 1, 0, none⟩ = some (sv b.1) ∧ w'.cell? ⟨w.heap.size + 1, 1, none⟩ = some (sv b.2)) ((refine hc ?_; focus (repeat' (first | assumption | exact Mod.refl _ _ | (refine Mod.drew ?_) | (refine Mod.drewN ?_ _) | (refine Mod.alloc ?_ _))))) (first
      | (go_at_call 25; (with_reducible refine r1.mono ?_); rintro e wa ⟨rfl, xa⟩; have ya := ext_trans q1 xa)
      | (go_at_call 25; (with_reducible refine r2.mono ?_); rintro e wa ⟨rfl, xa⟩; have ya := ext_trans q2 xa; have g4 := pb (g2.ext xa))
      | (go_at_call 25; (with_reducible refine r3.mono ?_); rintro e wa ⟨rfl, xa⟩; have ya := ext_trans q3 xa; have g4 := pb (g3.ext xa))
      | (go_at_call 25; (with_reducible refine (s1 wa).mono ?_); rintro e wb ⟨rfl, xb⟩; have yb := ext_trans (ya.alloc _) xb)
      | (go_at_call 25; (with_reducible refine g4.mono ?_); rintro e wb ⟨rfl, xb⟩; have yb := ext_trans ya xb))
    all_goals obtain ⟨d0, d1, d2, d3⟩ := hc yb
    all_goals clear r1 r2 r3 s1 f1 f2 f3 g2 g3 pa pb q0 q1 q2 q3 xa xb ya
    all_goals have hsG := sv_size G
    all_goals have hsA := sv_size PA
    all_goals have hsB := sv_size PB
    all_goals have hlen : (G ++ (PA ++ (G ++ (44 :: (G ++ (PB ++ G)))))).length ≤ 1000000 := (by simp only [List.length_append, List.length_cons]; omega)
    all_goals have hpz := fun wx => parse_any (w := wx) _ hlen
    all_goals rw [hpar] at hpz
    all_goals replace hlen := Lib.hid hlen
    all_goals replace hpar := Lib.hid hpar
    all_goals go_wp2_with fail
    all_goals rw [cat7 G PA PB]
    all_goals refine (hpz _).mono ?_
    all_goals rintro e wp ⟨vp, rfl, kp, _, xp⟩
    all_goals replace xp := ext_trans yb xp
    all_goals clear hpz d0 d1 d2 d3
    all_goals obtain ⟨d0, d1, d2, d3⟩ := hc xp
    all_goals go_wp2_with fail
    all_goals have hnm := names13_any (kp.ext ((Mod.refl (fun _ => False) _).alloc (.cells #[sv a.1, sv a.2, sv b.1, sv b.2] 37))).rc (as_two wp a b) (by simp)
    all_goals refine hnm.mono ?_
    all_goals rintro e wn ⟨rfl, xn⟩
    all_goals rw [dtrue rfl]
    all_goals go_wp2_with fail
    all_goals refine known13_any.mono ?_
    all_goals rintro e wk ⟨rfl, xk⟩
    all_goals go_wp2_with fail
    all_goals go_ret
    all_goals exact ⟨rfl, ext_trans x0 (ext_trans xp (ext_trans ((Mod.refl _ wp).alloc _) (ext_trans xn xk)))⟩
end Go.Proofs.Ytbdkdbfcbakgmaa
