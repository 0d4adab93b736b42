/- filter: the laws FilterParses, FilterSettles. -/
import Derived.Test.YtekocbphdckmkaaFrG
namespace Go.Proofs.Ytekocbphdckmkaa
open Go.RowKit
set_option maxRecDepth 100000

def resF : Except Nat Fi → Fi
  | .ok F => F
  | .error _ => fz
def resX : Except Nat Fi → Nat
  | .ok _ => 0
  | .error x => x
theorem fz_fil (w : World) : FilN 16 w fz (.slice none 0 0) (.slice none 0 0) := by
  have h : FilS (fun _ => True) 1 w fz (.slice none 0 0) (.slice none 0 0) := FilS.leaf ⟨by decide, by simp [Fi.typ, fz], by simp [Fi.val, fz], by simp [Fi.subs, fz], by simp [Fi.subs, fz], by simp [Fi.kids, fz]⟩ (Sl.nil _ _) rfl
  exact h.fil.more (by omega)
theorem POut.two {R : Except Nat Fi} {w : World} {e : Ending} (h : POut R w e) : ∃ (F : Fi) (X : Int) (vs vk : Value), F = resF R ∧ X = ((resX R : Nat) : Int) ∧ e = .returned (.tuple #[filV F vs vk, .int .i64 X]) ∧ FilN 16 w F vs vk := by
  obtain ⟨F', vs, vk, x, rfl, h⟩ := h
  rcases h with ⟨rfl, hx, rfl, rfl, rfl⟩ | ⟨rfl, rfl, hF⟩
  · exact ⟨_, _, _, _, rfl, rfl, rfl, fz_fil _⟩
  · exact ⟨_, _, _, _, rfl, rfl, rfl, hF⟩
theorem parse_isN {s : List UInt8} {F : Fi} (h : parseP s = .ok F) : isN 16 F = true := by
  unfold parseP at h
  split at h
  · cases h
  · split at h
    · split at h
      · rename_i hi
        cases h; exact hi
      · cases h
    · cases h
theorem parse_err {s : List UInt8} {x : Nat} (h : parseP s = .error x) (w : World) (e : Ending) (hp : POut (parseP s) w e) : x ≠ 0 := (hp.err_ h).2
set_option maxHeartbeats 2000000 in
theorem lparses_any {w : World} (s : List UInt8) (hs : s.length ≤ 140737488351232) :
    Calls Try.prog 3 #[sv s] w fun e w' => e = .returned (.bool true) ∧ Ext w w' := by
  have hsz := sv_size s
  by_cases hl : 600 < s.length
  · have hb : decide ((600 : Int) < (s.length : Int)) = true := dtrue (by omega)
    go_enter Try.func3, Try.ntmps3
    go_wp2_with fail
    go_ret
    exact ⟨rfl, Mod.refl _ _⟩
  have hb : decide ((600 : Int) < (s.length : Int)) = false := dfalse (by omega)
  have h1 := fparse_any (w := w) s (by omega)
  have h2 := fun wx : World => rparse_any (w := wx) s (by omega)
  obtain ⟨U, hU⟩ : ∃ U, U = parseP s := ⟨_, rfl⟩
  rw [← hU] at h1 h2
  replace h1 := Lib.hid h1
  replace h2 := Lib.hid h2
  clear hU
  go_enter Try.func3, Try.ntmps3
  go_wp2_with fail
  refine h1.out.mono ?_
  rintro e w1 ⟨hpo, x1⟩
  obtain ⟨F, X, vs, vk, hFe, hX, rfl, hF⟩ := hpo.two
  have hrf : eqN 16 F F = true := eqN_refl hF
  replace hFe := Lib.hid hFe
  replace hX := Lib.hid hX
  obtain ⟨⟨p1, p2, p3, rfl⟩, p4, p5, p6, rfl⟩ := hF.shape
  obtain ⟨w2, hw2⟩ : ∃ y7 : World, y7 = w1.alloc (.cells #[.int .i64 F.kind, sv F.typ, sv F.val, .slice p1 p2 p3, .slice p4 p5 p6] 25) := ⟨_, rfl⟩
  obtain ⟨p, hp⟩ : ∃ y8, y8 = w1.heap.size := ⟨_, rfl⟩
  have xw2 : Ext w1 w2 := by rw [hw2]; exact (Mod.refl _ w1).alloc _
  have Bp : Blk w2 p 25 #[.int .i64 F.kind, sv F.typ, sv F.val, .slice p1 p2 p3, .slice p4 p5 p6] := by rw [hw2, hp]; exact Blk.new w1 _ _
  replace hw2 := Lib.hid hw2
  replace hp := Lib.hid hp
  have hF2 := hF.ext xw2
  have y2 := ext_trans x1 xw2
  clear h1 hpo x1 hF xw2
  go_upto_region 4 with fail
  rw [← hw2.out, ← hp.out]
  clear hw2 hp
  go_wp2_with fail
  refine (h2.out _).mono ?_
  rintro e w3 ⟨hpo, x3⟩
  obtain ⟨G, X', us, uk, hGe, hX', rfl, hG⟩ := hpo.two
  obtain rfl : F = G := hFe.out.trans hGe.symm
  obtain rfl : X = X' := hX.out.trans hX'.symm
  obtain ⟨⟨q1, q2, q3, rfl⟩, q4, q5, q6, rfl⟩ := hG.shape
  obtain ⟨w4, hw4⟩ : ∃ y7 : World, y7 = w3.alloc (.cells #[.int .i64 F.kind, sv F.typ, sv F.val, .slice q1 q2 q3, .slice q4 q5 q6] 25) := ⟨_, rfl⟩
  obtain ⟨q, hq⟩ : ∃ y8, y8 = w3.heap.size := ⟨_, rfl⟩
  have xw4 : Ext w3 w4 := by rw [hw4]; exact (Mod.refl _ w3).alloc _
  have Bq : Blk w4 q 25 #[.int .i64 F.kind, sv F.typ, sv F.val, .slice q1 q2 q3, .slice q4 q5 q6] := by rw [hw4, hq]; exact Blk.new w3 _ _
  replace hw4 := Lib.hid hw4
  replace hq := Lib.hid hq
  have y3 := ext_trans x3 xw4
  have hF4 := hF2.ext y3
  have hG4 := hG.ext xw4
  have y4 := ext_trans y2 y3
  obtain ⟨-, a0, a1, a2, a3, a4⟩ := (Bp.mod y3 (fun h => h)).five
  obtain ⟨-, b0, b1, b2, b3, b4⟩ := Bq.five
  have hsm : Calls Try.prog 10 #[.agg #[.int .i64 F.kind, sv F.typ, sv F.val, .slice p1 p2 p3, .slice p4 p5 p6], .agg #[.int .i64 F.kind, sv F.typ, sv F.val, .slice q1 q2 q3, .slice q4 q5 q6]] w4 _ := rsame_any 16 hF4 hG4
  rw [hrf] at hsm
  replace hsm := Lib.hid hsm
  have hXX : (X == X) = true := beq_self_eq_true X
  clear h2 hpo hF2 hG Bp Bq x3 xw4 y2 y3 hX hFe hrf hF4 hG4 hGe hX'
  go_upto_region 5 with fail
  rw [← hw4.out, ← hq.out]
  clear hw4 hq
  go_wp2_with fail
  refine hsm.out.mono ?_
  rintro e w5 ⟨rfl, x5⟩
  clear a0 a1 a2 a3 a4 b0 b1 b2 b3 b4 hsm
  go_wp2_with fail
  refine (knownF_any w5).mono ?_
  rintro e w6 ⟨rfl, x6⟩
  go_wp2_with fail
  go_ret
  exact ⟨rfl, ext_trans y4 (ext_trans x5 x6)⟩
set_option maxHeartbeats 2000000 in
theorem lsettles_any {w : World} (s : List UInt8) (hs : s.length ≤ 140737488351232) :
    Calls Try.prog 6 #[sv s] w fun e w' => e = .returned (.bool true) ∧ Ext w w' := by
  have hsz := sv_size s
  by_cases hl : 600 < s.length
  · have hb : decide ((600 : Int) < (s.length : Int)) = true := dtrue (by omega)
    go_enter Try.func6, Try.ntmps6
    go_wp2_with fail
    go_ret
    exact ⟨rfl, Mod.refl _ _⟩
  have hb : decide ((600 : Int) < (s.length : Int)) = false := dfalse (by omega)
  have h1 := fparse_any (w := w) s (by omega)
  have h2 := fun wx : World => rparse_any (w := wx) s (by omega)
  obtain ⟨U, hU⟩ : ∃ U, U = parseP s := ⟨_, rfl⟩
  have hok : ∀ F, U = .ok F → isN 16 F = true := fun F e => parse_isN (hU.symm.trans e)
  rw [← hU] at h1 h2
  replace h1 := Lib.hid h1
  replace h2 := Lib.hid h2
  clear hU
  go_enter Try.func6, Try.ntmps6
  go_wp2_with fail
  refine h1.out.mono ?_
  rintro e w1 ⟨hpo, x1⟩
  cases hU : U with
  | error x =>
    rw [hU] at hpo h2
    obtain ⟨rfl, hx0⟩ := hpo.err_ rfl
    have hxb : ((x : Int) != 0) = true := bne_iff_ne.2 (by omega)
    have y2 := x1.alloc (.cells #[.int .i64 0, sv [], sv [], .slice none 0 0, .slice none 0 0] 25)
    clear h1 hpo hok hU
    go_wp2_with fail
    refine (h2.out _).mono ?_
    rintro e w3 ⟨hpo, x3⟩
    obtain ⟨rfl, -⟩ := hpo.err_ rfl
    have y4 := ext_trans y2 (x3.alloc (.cells #[.int .i64 0, sv [], sv [], .slice none 0 0, .slice none 0 0] 25))
    clear h2 hpo x1 y2 x3
    go_wp2_with fail
    refine (knownF_any _).mono ?_
    rintro e w6 ⟨rfl, x6⟩
    go_wp2_with fail
    go_ret
    exact ⟨rfl, ext_trans y4 x6⟩
  | ok F =>
    rw [hU] at hpo
    obtain ⟨vs, vk, rfl, hF⟩ := hpo.ok_ rfl
    have hi := hok F hU
    have hrf : eqN 16 F F = true := eqN_refl hF
    obtain ⟨⟨p1, p2, p3, rfl⟩, p4, p5, p6, rfl⟩ := hF.shape
    obtain ⟨w2, hw2⟩ : ∃ y7 : World, y7 = w1.alloc (.cells #[.int .i64 F.kind, sv F.typ, sv F.val, .slice p1 p2 p3, .slice p4 p5 p6] 25) := ⟨_, rfl⟩
    obtain ⟨p, hp⟩ : ∃ y8, y8 = w1.heap.size := ⟨_, rfl⟩
    have xw2 : Ext w1 w2 := by rw [hw2]; exact (Mod.refl _ w1).alloc _
    have Bp : Blk w2 p 25 #[.int .i64 F.kind, sv F.typ, sv F.val, .slice p1 p2 p3, .slice p4 p5 p6] := by rw [hw2, hp]; exact Blk.new w1 _ _
    replace hw2 := Lib.hid hw2
    replace hp := Lib.hid hp
    have hF2 := hF.ext xw2
    have y2 := ext_trans x1 xw2
    have hpr : Calls Try.prog 13 #[.agg #[.int .i64 F.kind, sv F.typ, sv F.val, .slice p1 p2 p3, .slice p4 p5 p6]] w2 fun e w' => e = .returned (sv (printN 16 F)) ∧ Ext w2 w' := fprint_any hF2
    have hpn : printN 16 F = textN 16 F := by unfold printN; rw [if_pos hi]
    have htl := text_isN hi
    have hpp := parse_print hi
    rw [hpn] at hpr
    have hpa := fun wx : World => fparse_any (w := wx) (textN 16 F) (by omega)
    rw [hpp] at hpa
    generalize textN 16 F = tx at *
    obtain ⟨-, a0, a1, a2, a3, a4⟩ := Bp.five
    have e00 : (((0 : Nat) : Int) != 0) = false := rfl
    replace hpr := Lib.hid hpr
    replace hpa := Lib.hid hpa
    clear h1 h2 hpo x1 hF xw2 hok hU hpn hpp htl
    go_upto_region 4 with fail
    rw [← hw2.out, ← hp.out]
    clear hw2 hp
    go_wp2_with fail
    refine hpr.out.mono ?_
    rintro e w3 ⟨rfl, x3⟩
    go_wp2_with fail
    refine (hpa.out _).mono ?_
    rintro e w4 ⟨hpo, x4⟩
    obtain ⟨us, uk, rfl, hG⟩ := hpo.ok_ rfl
    obtain ⟨⟨q1, q2, q3, rfl⟩, q4, q5, q6, rfl⟩ := hG.shape
    obtain ⟨w5, hw5⟩ : ∃ y7 : World, y7 = w4.alloc (.cells #[.int .i64 F.kind, sv F.typ, sv F.val, .slice q1 q2 q3, .slice q4 q5 q6] 25) := ⟨_, rfl⟩
    obtain ⟨q, hq⟩ : ∃ y8, y8 = w4.heap.size := ⟨_, rfl⟩
    have xw5 : Ext w4 w5 := by rw [hw5]; exact (Mod.refl _ w4).alloc _
    have Bq : Blk w5 q 25 #[.int .i64 F.kind, sv F.typ, sv F.val, .slice q1 q2 q3, .slice q4 q5 q6] := by rw [hw5, hq]; exact Blk.new w4 _ _
    replace hw5 := Lib.hid hw5
    replace hq := Lib.hid hq
    have y5 := ext_trans x3 (ext_trans x4 xw5)
    have y6 := ext_trans y2 y5
    have hF5 := hF2.ext y5
    have hG5 := hG.ext xw5
    have Bp5 := Bp.mod y5 (fun h => h)
    clear a0 a1 a2 a3 a4
    obtain ⟨-, a0, a1, a2, a3, a4⟩ := Bp5.five
    obtain ⟨-, b0, b1, b2, b3, b4⟩ := Bq.five
    have hsm : Calls Try.prog 10 #[.agg #[.int .i64 F.kind, sv F.typ, sv F.val, .slice p1 p2 p3, .slice p4 p5 p6], .agg #[.int .i64 F.kind, sv F.typ, sv F.val, .slice q1 q2 q3, .slice q4 q5 q6]] w5 _ := rsame_any 16 hF5 hG5
    rw [hrf] at hsm
    have his := fun {wx : World} (x : Ext w5 wx) => IsF_any (hF5.ext x)
    rw [hi] at his
    replace hsm := Lib.hid hsm
    replace his := fun {wx : World} (x : Ext w5 wx) => Lib.hid (his x)
    clear hpr hpa hpo hF2 hG Bp Bq x3 x4 xw5 y2 y5 hi hrf hF5 hG5
    go_upto_region 8 with fail
    rw [← hw5.out, ← hq.out]
    clear hw5 hq
    go_wp2_with fail
    refine hsm.out.mono ?_
    rintro e w6 ⟨rfl, x6⟩
    have his6 := his x6
    clear a0 a1 a2 a3 a4 b0 b1 b2 b3 b4 hsm his
    obtain ⟨-, a0, a1, a2, a3, a4⟩ := (Bp5.mod x6 (fun h => h)).five
    go_wp2_with fail
    refine his6.out.mono ?_
    rintro e w7 ⟨rfl, x7⟩
    clear a0 a1 a2 a3 a4 his6
    go_wp2_with fail
    refine (knownF_any w7).mono ?_
    rintro e w8 ⟨rfl, x8⟩
    go_wp2_with fail
    go_ret
    exact ⟨rfl, ext_trans y6 (ext_trans x6 (ext_trans x7 x8))⟩
end Go.Proofs.Ytekocbphdckmkaa
