/- dn: the law Strokes. -/
import Derived.Test.YtbdkdbfcbakgmaaDnPO
import Derived.Test.YtbdkdbfcbakgmaaRegA
import Derived.Deep.RegionHeld3
namespace Go.Proofs.Ytbdkdbfcbakgmaa
open Go.RowKit
set_option maxRecDepth 100000

def hexU (n : Nat) : UInt8 := [48, 49, 50, 51, 52, 53, 54, 55, 56, 57, 65, 66, 67, 68, 69, 70].getD n 0
theorem hexU_dig : ∀ n, n < 16 → digB (hexU n) = some (UInt8.ofNat n) ∧ hexU n ∉ mayB := by decide
theorem hexUI (n : Nat) (hn : n < 16) (h' : n < (⟨#[48, 49, 50, 51, 52, 53, 54, 55, 56, 57, 65, 66, 67, 68, 69, 70]⟩ : ByteArray).size) : (⟨#[48, 49, 50, 51, 52, 53, 54, 55, 56, 57, 65, 66, 67, 68, 69, 70]⟩ : ByteArray)[n]'h' = hexU n := by
  have : ∀ n, n < 16 → ∀ h', (⟨#[48, 49, 50, 51, 52, 53, 54, 55, 56, 57, 65, 66, 67, 68, 69, 70]⟩ : ByteArray)[n]'h' = hexU n := by decide
  exact this n hn h'
theorem cat3 (X : List UInt8) (x y : UInt8) : (⟨X.toArray⟩ : ByteArray) ++ ⟨#[92]⟩ ++ ⟨#[x, y]⟩ = ⟨(X ++ [92, x, y]).toArray⟩ := by
  rw [show X ++ [92, x, y] = X ++ [92] ++ [x, y] by simp, ← cat_data, ← cat_data]
theorem strokes_snoc (U : Nat → UInt8) (s : List UInt8) {k : Nat} (h : k < s.length) : strokes U (s.take (k + 1)) = strokes U (s.take k) ++ [92, U (s[k].toNat / 16), hexB (s[k].toNat % 16)] := by
  unfold strokes
  rw [List.take_succ_eq_append_getElem h, List.flatMap_append, List.flatMap_cons, List.flatMap_nil, List.append_nil]

set_option maxHeartbeats 8000000 in
theorem dnStrokes_walk {w : World} {s : List UInt8} (hs : s.length ≤ 140737488351232) :
    Calls Try.prog 10 #[sv s] w fun e w' => e = .returned (.bool true) ∧ Ext w w' := by
  have hsz := sv_size s
  by_cases hb : s.length < 1
  · have hb1 : decide ((s.length : Int) < 1) = true := dtrue (by omega)
    go_enter Try.func10, Try.ntmps10
    go_wp2_with fail
    go_ret
    exact ⟨rfl, Mod.refl _ _⟩
  have hb1 : decide ((s.length : Int) < 1) = false := dfalse (by omega)
  by_cases hc : 64 < s.length
  · have hb2 : decide ((64 : Int) < (s.length : Int)) = true := dtrue (by omega)
    go_enter Try.func10, Try.ntmps10
    go_wp2_with fail
    go_ret
    exact ⟨rfl, Mod.refl _ _⟩
  have hb2 : decide ((64 : Int) < (s.length : Int)) = false := dfalse (by omega)
  go_enter Try.func10, Try.ntmps10
  go_wp2_with fail
  go_loopw [3, 4] (fun t i wr => ∃ k : Nat, k ≤ s.length ∧ i = .int .i64 k ∧ t = sv ([99, 110, 61] ++ strokes hexU (s.take k)) ∧ Ext w wr) (fun _ i _ => s.length - (intOf i).toNat)
  case atStart => exact ⟨0, Nat.zero_le _, rfl, rfl, Mod.refl _ _⟩
  case round =>
    obtain ⟨k, hk, rfl, rfl, p2⟩ := hrel
    by_cases hlt : k < s.length
    case neg =>
      have hbl : decide ((k : Int) < (s.length : Int)) = false := dfalse (by omega)
      rw [List.take_of_length_le (by omega)]
      have hn : isName [([99, 110], s)] := ⟨by simp, fun a ha => by rw [List.mem_singleton.1 ha]; exact ⟨(by decide : isTyp [99, 110]), (show 1 ≤ s.length by omega), (show s.length ≤ 64 by omega)⟩⟩
      have fn : Fits [([99, 110], s)] := fits_of (by simp only [wN, List.map_cons, List.map_nil, List.sum_cons, List.sum_nil, List.length_cons, List.length_nil]; omega)
      have hlen : ([99, 110, 61] ++ strokes hexU s).length ≤ 1000000 := by
        rw [List.length_append, strokes_len]; simp only [List.length_cons, List.length_nil]; omega
      have hpa := fun wx => parse_any (w := wx) ([99, 110, 61] ++ strokes hexU s) hlen
      rw [show parseB ([99, 110, 61] ++ strokes hexU s) = ([([99, 110], s)], 0) from parse_strokes (t := [99, 110]) hexU_dig hn] at hpa
      have hpl : (printB [([99, 110], s)]).length ≤ 1000000 := by
        have := printB_len [([99, 110], s)]
        simp only [wN, List.map_cons, List.map_nil, List.sum_cons, List.sum_nil, List.length_cons, List.length_nil] at this
        omega
      have hpb := fun wx => parse_any (w := wx) (printB [([99, 110], s)]) hpl
      rw [parse_back hn] at hpb
      have hwn : wN [([99, 110], s)] ≤ 100000 := by simp only [wN, List.map_cons, List.map_nil, List.sum_cons, List.sum_nil, List.length_cons, List.length_nil]; omega
      replace hlen := Lib.hid hlen
      replace hpl := Lib.hid hpl
      go_wp2_with fail
      refine (hpa _).mono ?_
      rintro e w3 ⟨v3, rfl, p3, _, x3⟩
      replace x3 := ext_trans p2 x3
      clear p2
      go_wp2_with fail
      refine (printW_any p3.rc hwn).mono ?_
      rintro e w4 ⟨rfl, x4⟩
      have p4 := p3.ext x4
      replace x4 := ext_trans x3 x4
      clear p3 x3
      go_wp2_with fail
      refine (hpb _).mono ?_
      rintro e w5 ⟨v5, rfl, r5, _, x5⟩
      have p5 := p4.ext x5
      replace x5 := ext_trans x4 x5
      clear p4 x4
      have hx2 : Ext w5 (w5.alloc (.cells #[sv [99, 110], sv s] 37)) := (Mod.refl _ w5).alloc _
      have hL : As (w5.alloc (.cells #[sv [99, 110], sv s] 37)) (fun b => b = w5.heap.size) (.slice (some ⟨w5.heap.size, 0, none⟩) 1 1) [([99, 110], s)] := SlK.one w5 37 [sv [99, 110], sv s] 2 rfl
      have hnm := names13_any (p5.ext hx2).rc hL (by simp)
      rw [dtrue rfl] at hnm
      go_wp2_with fail
      refine hnm.mono ?_
      rintro e w6 ⟨rfl, x6⟩
      replace x6 := ext_trans hx2 x6
      have p6 := p5.ext x6
      have r6 := r5.ext x6
      replace x6 := ext_trans x5 x6
      clear hnm hL hx2 p5 r5
      go_wp2_with fail
      refine (names13_any r6.rc p6.rc (by simp)).mono ?_
      rintro e w7 ⟨rfl, x7⟩
      rw [dtrue rfl]
      have p7 := p6.ext x7
      replace x7 := ext_trans x6 x7
      go_wp2_with fail
      refine (ris_any p7.rc fn).mono ?_
      rintro e w8 ⟨rfl, hw8⟩
      rw [dtrue hn, hw8]
      clear hw8 w8
      go_wp2_with fail
      refine known13_any.mono ?_
      rintro e wk ⟨rfl, xk⟩
      go_wp2_with fail
      go_ret
      exact ⟨rfl, ext_trans x7 xk⟩
    have hbl : decide ((k : Int) < (s.length : Int)) = true := dtrue (by omega)
    obtain ⟨b, hbk⟩ : ∃ b, b = s[k] := ⟨_, rfl⟩
    have hg : ∀ h', (⟨s.toArray⟩ : ByteArray)[k]'h' = b := fun h' => (sv_get s k hlt h').trans hbk.symm
    have hsn := strokes_snoc hexU s hlt
    rw [← hbk] at hsn
    have hi0 : (0 : Int) ≤ (k : Int) := by omega
    have hi1 : (k : Int) < (s.length : Int) := by omega
    have hb256 := b.toNat_lt
    have e0 : (0 : Int) ≤ (b.toNat : Int) / 16 := by omega
    have e1 : (b.toNat : Int) / 16 < 16 := by omega
    have e2 : (0 : Int) ≤ (b.toNat : Int) % 16 := by omega
    have e3 : (b.toNat : Int) % 16 < 16 := by omega
    have eb0 : (0 : Int) ≤ (b.toNat : Int) := by omega
    have eb1 : (b.toNat : Int) < 256 := by omega
    have e4 := and15 b
    have t1 : ∀ h', (⟨#[48, 49, 50, 51, 52, 53, 54, 55, 56, 57, 65, 66, 67, 68, 69, 70]⟩ : ByteArray)[((b.toNat : Int) / 16).toNat]'h' = hexU (b.toNat / 16) := fun h' => (hexUI _ (by omega) h').trans (by congr 1)
    have t2 : ∀ h', (⟨#[48, 49, 50, 51, 52, 53, 54, 55, 56, 57, 97, 98, 99, 100, 101, 102]⟩ : ByteArray)[((b.toNat : Int) % 16).toNat]'h' = hexB (b.toNat % 16) := fun h' => (hexI _ (by omega) h').trans (by congr 1)
    have hxl : ([99, 110, 61] ++ strokes hexU (s.take k)).length ≤ 1000 := by
      rw [List.length_append, strokes_len, List.length_take]; simp only [List.length_cons, List.length_nil]; omega
    have hxn : [99, 110, 61] ++ strokes hexU (s.take (k + 1)) = ([99, 110, 61] ++ strokes hexU (s.take k)) ++ [92, hexU (b.toNat / 16), hexB (b.toNat % 16)] := by rw [hsn, List.append_assoc]
    generalize [99, 110, 61] ++ strokes hexU (s.take k) = X at *
    have hxs := sv_size X
    have hcc : ¬ 9223372036854775807 < X.length + 1 := by omega
    have hcc2 : ¬ 9223372036854775807 < X.length + 1 + 2 := by omega
    replace hxn := Lib.hid hxn
    clear hsn hbk
    go_wp2_with fail
    refine wp_region_held_drew (S := fun _ => True) (by kernel_rfl) trivial (fun hH => ?_)
    clear hH
    have hT : (fun _ : World => True) wr.drew := trivial
    (refine wpAnyH_take (i := 0) (v := ?tv1) rfl (by kernel_rfl) (by kernel_rfl) (by kernel_rfl) (fun _ _ _ h => h) (Or.inl ⟨by rfl, ?hy1⟩) (by assumption) ?rs1; case hy1 => (intro wx hSw; (try dsimp only at hSw); go_simp; try with_reducible rfl); try simp only [Act.put, List.setIfInBounds_toArray, List.set_cons_zero, List.set_cons_succ])
    (refine wpAnyH_take (i := 1) (v := ?tv2) rfl (by kernel_rfl) (by kernel_rfl) (by kernel_rfl) (fun _ _ _ h => h) (Or.inl ⟨by rfl, ?hy2⟩) (by assumption) ?rs2; case hy2 => (intro wx hSw; (try dsimp only at hSw); go_simp; try with_reducible rfl); try simp only [Act.put, List.setIfInBounds_toArray, List.set_cons_zero, List.set_cons_succ])
    (refine wpAnyH_take (i := 2) (v := ?tv3) rfl (by kernel_rfl) (by kernel_rfl) (by kernel_rfl) (fun _ _ _ h => h) (Or.inl ⟨by rfl, ?hy3⟩) (by assumption) ?rs3; case hy3 => (intro wx hSw; (try dsimp only at hSw); go_simp; try with_reducible rfl); try simp only [Act.put, List.setIfInBounds_toArray, List.set_cons_zero, List.set_cons_succ])
    (refine wpAnyH_take (i := 3) (v := ?tv4) rfl (by kernel_rfl) (by kernel_rfl) (by kernel_rfl) (fun _ _ _ h => h) (Or.inl ⟨by rfl, ?hy4⟩) (by assumption) ?rs4; case hy4 => (intro wx hSw; (try dsimp only at hSw); go_simp; try with_reducible rfl); try simp only [Act.put, List.setIfInBounds_toArray, List.set_cons_zero, List.set_cons_succ])
    (refine wpAnyH_take (i := 4) (v := ?tv5) rfl (by kernel_rfl) (by kernel_rfl) (by kernel_rfl) (fun _ _ _ h => h) (Or.inl ⟨by rfl, ?hy5⟩) (by assumption) ?rs5; case hy5 => (intro wx hSw; (try dsimp only at hSw); go_simp; try with_reducible rfl); try simp only [Act.put, List.setIfInBounds_toArray, List.set_cons_zero, List.set_cons_succ])
    (refine wpAnyH_take (i := 5) (v := ?tv6) rfl (by kernel_rfl) (by kernel_rfl) (by kernel_rfl) (fun _ _ _ h => h) (Or.inl ⟨by rfl, ?hy6⟩) (by assumption) ?rs6; case hy6 => (intro wx hSw; (try dsimp only at hSw); go_simp; try with_reducible rfl); try simp only [Act.put, List.setIfInBounds_toArray, List.set_cons_zero, List.set_cons_succ])
    (refine wpAnyH_take (i := 6) (v := ?tv7) rfl (by kernel_rfl) (by kernel_rfl) (by kernel_rfl) (fun _ _ _ h => h) (Or.inl ⟨by rfl, ?hy7⟩) (by assumption) ?rs7; case hy7 => (intro wx hSw; (try dsimp only at hSw); go_simp; try with_reducible rfl); try simp only [Act.put, List.setIfInBounds_toArray, List.set_cons_zero, List.set_cons_succ])
    (refine wpAnyH_take (i := 7) (v := ?tv8) rfl (by kernel_rfl) (by kernel_rfl) (by kernel_rfl) (fun _ _ _ h => h) (Or.inl ⟨by rfl, ?hy8⟩) (by assumption) ?rs8; case hy8 => (intro wx hSw; (try dsimp only at hSw); go_simp; try with_reducible rfl); try simp only [Act.put, List.setIfInBounds_toArray, List.set_cons_zero, List.set_cons_succ])
    (refine wpAnyH_take (i := 8) (v := ?tv9) rfl (by kernel_rfl) (by kernel_rfl) (by kernel_rfl) (fun _ _ _ h => h) (Or.inl ⟨by rfl, ?hy9⟩) (by assumption) ?rs9; case hy9 => (intro wx hSw; (try dsimp only at hSw); go_simp; try with_reducible rfl); try simp only [Act.put, List.setIfInBounds_toArray, List.set_cons_zero, List.set_cons_succ])
    (refine wpAnyH_take (i := 9) (v := ?tv10) rfl (by kernel_rfl) (by kernel_rfl) (by kernel_rfl) (fun _ _ _ h => h) (Or.inl ⟨by rfl, ?hy10⟩) (by assumption) ?rs10; case hy10 => (intro wx hSw; (try dsimp only at hSw); go_simp; try with_reducible rfl); try simp only [Act.put, List.setIfInBounds_toArray, List.set_cons_zero, List.set_cons_succ])
    (refine wpAnyH_take (i := 10) (v := ?tv11) rfl (by kernel_rfl) (by kernel_rfl) (by kernel_rfl) (fun _ _ _ h => h) (Or.inl ⟨by rfl, ?hy11⟩) (by assumption) ?rs11; case hy11 => (intro wx hSw; (try dsimp only at hSw); go_simp; try with_reducible rfl); try simp only [Act.put, List.setIfInBounds_toArray, List.set_cons_zero, List.set_cons_succ])
    (refine wpAnyH_take (i := 11) (v := ?tv12) rfl (by kernel_rfl) (by kernel_rfl) (by kernel_rfl) (fun _ _ _ h => h) (Or.inl ⟨by rfl, ?hy12⟩) (by assumption) ?rs12; case hy12 => (intro wx hSw; (try dsimp only at hSw); go_simp; try with_reducible rfl); try simp only [Act.put, List.setIfInBounds_toArray, List.set_cons_zero, List.set_cons_succ])
    (refine wpAnyH_ready (rs := [12]) (by kernel_rfl) (by simp) ?_; refine AllReadyH.cons rfl (fun K hK => ?_) AllReadyH.nil; go_simp)
    refine hK.out _ _ trivial (fun hH => ?_)
    clear hK K hH
    try simp only [Act.put, List.setIfInBounds_toArray, List.set_cons_zero, List.set_cons_succ]
    have hbs : Bs (wr.alloc (.cells #[.int .u8 ((hexU (b.toNat / 16)).toNat : Int), .int .u8 ((hexB (b.toNat % 16)).toNat : Int)] 5)).drew (fun k => k = wr.heap.size) (.slice (some ⟨wr.heap.size, 0, none⟩) 2 2) [hexU (b.toNat / 16), hexB (b.toNat % 16)] := (Bs.lit wr 5 [hexU (b.toNat / 16), hexB (b.toNat % 16)] (by simp [maxLen])).ext (Mod.refl _ _).drew
    have ka := run_conv (P := Try.prog) Try.underlying40 Try.underlying5 Try.underlying9 hbs
    have xe : Ext wr (wr.alloc (.cells #[.int .u8 ((hexU (b.toNat / 16)).toNat : Int), .int .u8 ((hexB (b.toNat % 16)).toNat : Int)] 5)).drew := ((Mod.refl _ wr).alloc _).drew
    clear hbs
    generalize (wr.alloc (.cells #[.int .u8 ((hexU (b.toNat / 16)).toNat : Int), .int .u8 ((hexB (b.toNat % 16)).toNat : Int)] 5)).drew = wb at *
    refine wpAnyH_mono (S' := fun wz => (convert 40 9 (.slice (some ⟨wr.heap.size, 0, none⟩) 2 2)).run Try.prog wz = .ok (sv [hexU (b.toNat / 16), hexB (b.toNat % 16)]) wz) (fun _ _ => trivial) _ _ _ _ ?_
    (refine wpAnyH_take (i := 13) (v := ?tv13) rfl (by kernel_rfl) (by kernel_rfl) (by kernel_rfl) (fun _ _ _ h => h) (Or.inl ⟨by rfl, ?hy13⟩) (by assumption) ?rs13; case hy13 => (intro wx hSw; (try dsimp only at hSw); go_simp; try with_reducible rfl); try simp only [Act.put, List.setIfInBounds_toArray, List.set_cons_zero, List.set_cons_succ])
    (refine wpAnyH_take (i := 14) (v := ?tv14) rfl (by kernel_rfl) (by kernel_rfl) (by kernel_rfl) (fun _ _ _ h => h) (Or.inl ⟨by rfl, ?hy14⟩) (by assumption) ?rs14; case hy14 => (intro wx hSw; (try dsimp only at hSw); go_simp; try with_reducible rfl); try simp only [Act.put, List.setIfInBounds_toArray, List.set_cons_zero, List.set_cons_succ])
    (refine wpAnyH_take (i := 15) (v := ?tv15) rfl (by kernel_rfl) (by kernel_rfl) (by kernel_rfl) (fun _ _ _ h => h) (Or.inl ⟨by rfl, ?hy15⟩) (by assumption) ?rs15; case hy15 => (intro wx hSw; (try dsimp only at hSw); go_simp; try with_reducible rfl); try simp only [Act.put, List.setIfInBounds_toArray, List.set_cons_zero, List.set_cons_succ])
    refine wpAnyH_done (by kernel_rfl) ?_ _
    go_wp2_with fail
    exact ⟨⟨k + 1, by omega, by go_num, by rw [hxn.out]; exact congrArg Value.string (cat3 _ _ _), ext_trans p2 xe⟩, by simp [intOf] <;> omega⟩
end Go.Proofs.Ytbdkdbfcbakgmaa
