/- batch: the law Encodes. -/
import Derived.Test.YtlfooppmdgddkaaBatF
import Derived.Test.YtlfooppmdgddkaaBatJ
import Derived.Test.YtlfooppmdgddkaaBatV
namespace Go.Proofs.Ytlfooppmdgddkaa
open Go.RowKit Go.ChangeShapes
set_option maxRecDepth 100000

set_option maxHeartbeats 32000000 in
theorem batchEncodes_walk {w : World} {S : Nat → Prop} {v : Value} {L : List Ro} {s : Int} (h : Rs w S v L) (hf : MFits L) :
    Calls Try.prog 14 #[v, .int .i64 s] w fun e w' => e = .returned (.bool true) ∧ Ext w w' := by
  have hheavy := heavy10_any h hf
  have hkn := fun wx => known10_any (w := wx)
  obtain ⟨E, hE⟩ : ∃ E, E = encR10 L := ⟨_, rfl⟩
  obtain ⟨R, hR⟩ : ∃ R, R = chkR L := ⟨_, rfl⟩
  obtain ⟨C, hC⟩ : ∃ C, C = cellsB s L := ⟨_, rfl⟩
  have hen := fun (wx : World) (T : Nat → Prop) (u : Value) (hu : Rs wx T u L) (hw : wR L ≤ 1000000000) => bencode_any hu hw
  have hre := fun (wx : World) (hx : Ext w wx) (hw : wR L ≤ 1000000000) => rbencode_any (h.ext hx) hw
  have hck := fun (wx : World) (hx : Ext w wx) (hw : wR L ≤ 1000000000) => check_any (h.ext hx) hw
  have hrk := fun (wx : World) (hx : Ext w wx) (hw : wR L ≤ 1000000000) => rcheck_any (h.ext hx) hw
  have hcl := fun (wx : World) (hx : Ext w wx) (hl : L.length ≤ 100000) => bcells_any sortC_holds (s := s) (h.ext hx) hf hl
  have hrc := fun (wx : World) (hx : Ext w wx) (hl : L.length ≤ 100000) => rbcells_any (s := s) (h.ext hx) hl
  have hrs := fun {wx : World} (hx : Ext w wx) => h.ext hx
  rw [← hE, ← hR] at hen hre
  rw [← hR] at hck hrk
  rw [← hC] at hcl hrc
  have hbC : C.length ≤ L.length := by rw [hC]; exact cellsB_len s L
  replace hE := Lib.hid hE
  replace hR := Lib.hid hR
  replace hC := Lib.hid hC
  obtain ⟨A, c, rfl, h1, h2, h3, h4⟩ := h.open_ rol_len
  clear h h4
  go_enter Try.func14, Try.ntmps14
  go_wp2_with fail
  refine hheavy.mono ?_
  rintro e w1 ⟨q, rfl, hq, x1⟩
  clear hheavy
  cases q
  case true =>
    clear hq
    go_wp2_with fail
    go_ret
    exact ⟨rfl, x1⟩
  obtain ⟨hw, hl⟩ := hq rfl
  clear hq
  have oe := OwnR.empty rol 3 w1 82
  have rl := hrs (x1.alloc (.cells #[] 82))
  have fe := fresh_at (B := w1.heap.size) (g := w1.heap.size) (n := 0) (c := 0) (Nat.le_refl _)
  have hn9 : Hid ((([] : List Ro).length + L.length) * 40 ≤ 140737488355328) := Lib.hid (by simp only [List.length_nil]; omega)
  go_wp2_with ((with_reducible show wpList _ _ _ (⟨some 17, _, _, _, _, _⟩ :: _) _ _); refine wp_appRm tyW oe rl (fun x _ => rol_ok x) hn9.out rfl (.tmp 15) (.tmp 16) rfl rfl rfl ?_; intro v2 w2 o2 m2 n2)
  have x2 : Ext w1 w2 := ext_app0 ((Mod.refl _ w1).alloc _) fe m2
  have y2 := ext_trans x1 x2
  rw [List.nil_append] at o2
  have hen2 := hen w2 _ v2 o2.rc (by omega)
  clear oe rl fe hn9 o2 m2 n2 x1 x2 hen hrs
  go_wp2_with fail
  refine hen2.mono ?_
  rintro e w3 ⟨v3, rfl, o3, -, x3⟩
  have y3 := ext_trans y2 x3
  have hre3 := hre w3 y3 (by omega)
  clear hen2 hre x3 y2
  go_wp2_with fail
  refine hre3.mono ?_
  rintro e w4 ⟨v4, rfl, o4, -, x4⟩
  have y4 := ext_trans y3 x4
  have o5 := o3.mod x4 (fun _ _ h => h)
  have cv1 := run_conv (P := Try.prog) Try.underlying30 Try.underlying5 Try.underlying9 o5.sl
  have cv2 := run_conv (P := Try.prog) Try.underlying30 Try.underlying5 Try.underlying9 o4.sl
  have hck4 := hck w4 y4 (by omega)
  have hee : (E == E) = true := beq_self_eq_true _
  have hrr : ((R : Int) != (R : Int)) = false := by rw [bne_eq_false_iff_eq]
  clear hre3 hck x4 y3 o3
  go_wp2_with fail
  refine hck4.mono ?_
  rintro e w5 ⟨rfl, x5⟩
  have y5 := ext_trans y4 x5
  have hrk5 := hrk w5 y5 (by omega)
  clear hck4 hrk x5 y4 o4 o5 cv1 cv2
  go_wp2_with fail
  refine hrk5.mono ?_
  rintro e w6 ⟨rfl, x6⟩
  have y6 := ext_trans y5 x6
  have hcl6 := hcl w6 y6 (by omega)
  clear hrk5 hcl x6 y5
  go_wp2_with fail
  refine hcl6.mono ?_
  rintro e w7 ⟨v7, rfl, o7, -, x7⟩
  have y7 := ext_trans y6 x7
  have hrc7 := hrc w7 y7 (by omega)
  clear hcl6 hrc x7 y6
  go_wp2_with fail
  refine hrc7.mono ?_
  rintro e w8 ⟨v8, rfl, o8, -, x8⟩
  have y8 := ext_trans y7 x8
  replace o7 := o7.ext x8
  clear hrc7 x8 y7
  obtain ⟨B, d, rfl, j1, j2, j3, j4⟩ := o7.rc.open_ cel_len
  obtain ⟨B', d', rfl, k1, k2, k3, k4⟩ := o8.rc.open_ cel_len
  clear o7 o8
  have hcc : ((C.length : Int) != (C.length : Int)) = false := by rw [bne_eq_false_iff_eq]
  go_wp2_with fail
  go_loopw [11] (fun i wr => ∃ k : Nat, k ≤ C.length ∧ i = .int .i64 k ∧ Ext w8 wr) (fun i _ => C.length - (intOf i).toNat)
  case atStart => exact ⟨0, Nat.zero_le _, rfl, Mod.refl _ _⟩
  case round =>
    obtain ⟨k, hk, rfl, y3⟩ := hrel
    by_cases hlt : k < C.length
    case neg =>
      have hbl : decide ((k : Int) < (C.length : Int)) = false := dfalse (by omega)
      go_wp2_with fail
      refine (hkn _).mono ?_
      rintro e w9 ⟨rfl, x9⟩
      go_wp2_with fail
      go_ret
      exact ⟨rfl, ext_trans y8 (ext_trans y3 x9)⟩
    have hbl : decide ((k : Int) < (C.length : Int)) = true := dtrue (by omega)
    obtain ⟨ad, hA, hS, c0, c1, c2, c3⟩ := Cs.at_ (j4.ext y3) hlt
    subst hA
    obtain ⟨bd, hB, hT, d0, d1, d2, d3⟩ := Cs.at_ (k4.ext y3) hlt
    subst hB
    have hi0 : (0 : Int) ≤ (k : Int) := by omega
    have hi1 : (k : Int) < (C.length : Int) := by omega
    generalize C[k] = x at *
    have hgu := fun wx a b => guardC wx .neq a b (car x) (car x)
    have hne : ∀ wx, (binOp .neq 23 (.agg (car x)) (.agg (car x))).run Try.prog wx = .ok (.bool false) wx := fun wx => by rw [neqC, dtrue rfl]; rfl
    have hdw : ∀ m, Ext w8 (wr.drewN m) := fun m => y3.drewN m
    go_wp2_with fail
    go_quiet (fail)
    go_wp2_with fail
    exact ⟨⟨k + 1, by omega, by go_num, hdw _⟩, by simp [intOf] <;> omega⟩
end Go.Proofs.Ytlfooppmdgddkaa
