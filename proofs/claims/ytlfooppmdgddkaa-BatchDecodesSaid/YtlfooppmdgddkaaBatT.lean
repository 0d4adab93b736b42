/- batch: the laws Back and Decodes. -/
import Derived.Test.YtlfooppmdgddkaaBatF
import Derived.Test.YtlfooppmdgddkaaBatQ
namespace Go.Proofs.Ytlfooppmdgddkaa
open Go.RowKit Go.ChangeShapes
set_option maxRecDepth 100000

theorem flatEnc_len : ∀ {L : List Ro}, (∀ r ∈ L, isR r) → (L.flatMap encRo).length ≤ 40 * L.length + lR L
  | [], _ => by simp
  | a :: L, h => by
    have ha := h a (List.mem_cons_self ..)
    have h1 : a.key.length ≤ 4096 := ha.2.1
    have h2 : a.val.length ≤ 16384 := ha.2.2.1
    have h3 := encRo_len a (by omega) (by omega)
    have ih := flatEnc_len (L := L) (fun r hr => h r (List.mem_cons_of_mem _ hr))
    rw [List.flatMap_cons, List.length_append, lR_cons, List.length_cons]
    omega
theorem encB10_len {L : List Ro} (h : chkR L = 0) : (encB10 L).length ≤ 60000 := by
  obtain ⟨_, h1, h2, h3⟩ := chk_zero h
  have := flatEnc_len h1
  have e := enc7_ten (n := L.length) (by omega)
  rw [encB10_eq, List.length_append]
  omega

set_option maxHeartbeats 32000000 in
theorem batchBack_walk {w : World} {S : Nat → Prop} {v : Value} {L : List Ro} (h : Rs w S v L) (hf : MFits L) :
    Calls Try.prog 16 #[v] w fun e w' => e = .returned (.bool true) ∧ Ext w w' := by
  have hheavy := heavy10_any h hf
  have hkn := fun wx => known10_any (w := wx)
  have hck := fun (wx : World) (hx : Ext w wx) (hw : wR L ≤ 1000000000) => rcheck_any (h.ext hx) hw
  have hen := fun (wx : World) (hx : Ext w wx) (hw : wR L ≤ 1000000000) => bencode_any (h.ext hx) hw
  have hrw := fun (wx : World) (hx : Ext w wx) (T : Nat → Prop) (u : Value) (M : List Ro) (hu : Rs wx T u M) => rows10_any (h.ext hx) hu
  obtain ⟨A, c, rfl, h1, h2, h3, h4⟩ := h.open_ rol_len
  clear h h4
  go_enter Try.func16, Try.ntmps16
  go_wp2_with fail
  refine hheavy.mono ?_
  rintro e w1 ⟨q, rfl, hq, x1⟩
  clear hheavy
  cases q
  case true =>
    clear hq
    go_wp2_with fail
    go_ret
    exact ⟨rfl, x1⟩
  obtain ⟨hw, hl⟩ := hq rfl
  clear hq
  have hck1 := hck w1 x1 (by omega)
  obtain ⟨R, hR⟩ : ∃ R, R = chkR L := ⟨_, rfl⟩
  rw [← hR] at hck1
  go_wp2_with fail
  refine hck1.mono ?_
  rintro e w2 ⟨rfl, x2⟩
  replace x2 := ext_trans x1 x2
  clear hck hck1 x1
  by_cases h0 : R = 0
  case neg =>
    have hb1 : ((R : Int) != 0) = true := by rw [bne_iff_ne]; omega
    go_wp2_with fail
    go_ret
    exact ⟨rfl, x2⟩
  have hc0 : chkR L = 0 := hR.symm.trans h0
  have hb1 : ((R : Int) != 0) = false := by rw [bne_eq_false_iff_eq]; omega
  have hE : encR10 L = encB10 L := if_pos hc0
  have hcan : canB (encB10 L) L := ⟨hc0, rfl⟩
  have hbl := encB10_len hc0
  have hen1 := hen w2 x2 (by omega)
  rw [hc0, hE] at hen1
  generalize encB10 L = b at *
  replace hcan := Lib.hid hcan
  clear hen hR h0 hE hc0
  go_wp2_with fail
  refine hen1.mono ?_
  rintro e w3 ⟨v3, rfl, o3, -, x3⟩
  have hde := bdecode_any o3.sl (by omega)
  have y3 := ext_trans x2 x3
  clear hen1 o3 x3 x2
  go_wp2_with fail
  refine hde.mono ?_
  rintro e w4 ⟨v4, M, cc, rfl, ht, o4, -, x4⟩
  obtain ⟨hM, hcc⟩ := ht.one (.inl ⟨hcan.out, rfl⟩)
  subst hM
  subst hcc
  have y4 := ext_trans y3 x4
  have hrw1 := hrw w4 y4 _ v4 M o4.rc
  rw [dtrue rfl] at hrw1
  clear hde ht hrw x4 y3 hcan
  go_wp2_with fail
  refine hrw1.mono ?_
  rintro e w5 ⟨rfl, x5⟩
  go_wp2_with fail
  refine (hkn _).mono ?_
  rintro e w6 ⟨rfl, x6⟩
  go_wp2_with fail
  go_ret
  exact ⟨rfl, ext_trans y4 (ext_trans x5 x6)⟩
end Go.Proofs.Ytlfooppmdgddkaa
namespace Go.Proofs.Ytlfooppmdgddkaa
open Go.RowKit Go.ChangeShapes
set_option maxRecDepth 100000

set_option maxHeartbeats 32000000 in
theorem batchDecodes_walk {w : World} {S : Nat → Prop} {y : Value} {b : List UInt8} (hy : Bs w S y b) :
    Calls Try.prog 15 #[y] w fun e w' => e = .returned (.bool true) ∧ Ext w w' := by
  have hkn := fun wx => known10_any (w := wx)
  obtain ⟨A, c, hv, hc1, hc2, hc3, hc4⟩ := hy.open_
  subst hv
  by_cases h3 : 3000 < b.length
  · have hb1 : decide ((3000 : Int) < (b.length : Int)) = true := dtrue (by omega)
    go_enter Try.func15, Try.ntmps15
    go_wp2_with fail
    go_ret
    exact ⟨rfl, Mod.refl _ _⟩
  have hb1 : decide ((3000 : Int) < (b.length : Int)) = false := dfalse (by omega)
  have hde := fun (wx : World) (T : Nat → Prop) (u : Value) (hu : Bs wx T u b) => bdecode_any hu (by omega)
  have hrd := fun (wx : World) (hx : Ext w wx) => rbdecode_any (hy.ext hx) (by omega)
  have xe : Ext w (w.alloc (.cells #[] 5)) := (Mod.refl _ w).alloc _
  have oe := Own.empty w 5
  have fe : Fresh w.heap.size (.slice (some ⟨w.heap.size, 0, none⟩) 0 0) := fun k hk => by have : w.heap.size = k := Option.some.inj hk; omega
  have hye := hy.ext xe
  go_enter Try.func15, Try.ntmps15
  go_wp2_with ((with_reducible show wpList _ _ _ (⟨some 13, _, _, _, _, _⟩ :: _) _ _); refine wp_app tyB oe hye (bv_one _) rfl _ _ rfl rfl rfl (by rw [List.length_map]; simp only [List.length_nil]; omega) ?_; intro v1 w1 o1 m1 n1)
  have x1 : Ext w w1 := ext_app (Mod.refl _ w) fe m1
  have o2 : Bs w1 (own v1) v1 b := by have := o1.sl; simpa using this
  refine (hde w1 _ v1 o2).mono ?_
  rintro e w2 ⟨v2, L, cc, rfl, ht, o3, -, x2⟩
  have y2 := ext_trans x1 x2
  have hr2 := hrd w2 y2
  clear hde hrd oe fe xe hye o1 m1 n1 o2 x1 x2
  go_wp2_with fail
  refine hr2.mono ?_
  rintro e w3 ⟨v3, M, dd, rfl, ht2, o4, -, x3⟩
  obtain ⟨hM, hcd⟩ := ht.one ht2
  subst hM
  subst hcd
  have o5 := o3.ext x3
  have y3 := ext_trans y2 x3
  have hrw1 := rows10_any o5.rc o4.rc
  rw [dtrue rfl] at hrw1
  clear ht ht2 hr2 o3 x3 y2 o5 o4
  go_wp2_with fail
  refine hrw1.mono ?_
  rintro e w5 ⟨rfl, x5⟩
  go_wp2_with fail
  refine (hkn _).mono ?_
  rintro e w6 ⟨rfl, x6⟩
  go_wp2_with fail
  go_ret
  exact ⟨rfl, ext_trans y3 (ext_trans x5 x6)⟩
end Go.Proofs.Ytlfooppmdgddkaa
