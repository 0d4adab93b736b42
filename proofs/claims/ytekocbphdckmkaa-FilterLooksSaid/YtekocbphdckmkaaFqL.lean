/- filter: a filter as a text, the document's way. -/
import Derived.Test.YtekocbphdckmkaaFqK
namespace Go.Proofs.Ytekocbphdckmkaa
open Go.RowKit
set_option maxRecDepth 100000

/-- What the document's text says, of filters that may be. -/
def TextIH (n : Nat) : Prop := ∀ {w : World} {F : Fi} {vs vk : Value} {d : Nat}, FilN n w F vs vk → oneN n F d = true → (textN n F).length ≤ 10000000 →
  Calls Try.prog 25 #[filV F vs vk] w fun e w' => e = .returned (sv (textN n F)) ∧ Ext w w'
/-- What is known of a filter that may be, in its letters. -/
def OneL (n : Nat) (kd : Int) (T V : List UInt8) (B : List (List UInt8)) (K : List Fi) : Prop :=
  ((kd = 0 ∨ kd = 1 ∨ kd = 2) ∧ ∃ d, ∀ x ∈ K, oneN n x d = true) ∨ ((kd = 3 ∨ kd = 5 ∨ kd = 6) ∧ T.length ≤ 32 ∧ V.length ≤ 256 ∧ K = []) ∨ (kd = 4 ∧ T.length ≤ 32 ∧ (∀ x ∈ B, x.length ≤ 256) ∧ B.length ≤ 16 ∧ K = []) ∨ (kd = 7 ∧ T.length ≤ 32 ∧ K = [])
theorem one_letters {n : Nat} {F : Fi} {d : Nat} (h : oneN (n + 1) F d = true) : OneL n F.kind F.typ F.val F.subs F.kids := by
  obtain ⟨-, hc⟩ := one_cases h
  cases hc with
  | kids hk ht hv hs hl h2 ha => exact .inl ⟨hk, d + 1, ha⟩
  | val hk ht hv hs hl => exact .inr (.inl ⟨hk, ht.2.1, hv, hl⟩)
  | sub hk ht hv hs hl => exact .inr (.inr (.inl ⟨hk, ht.2.1, fun x hx => by
      obtain ⟨i, hi, rfl⟩ := List.getElem_of_mem hx
      exact (hs.2.2.1 i hi).1, hs.2.1, hl⟩))
  | pre hk ht hv hs hl => exact .inr (.inr (.inr ⟨hk, ht.2.1, hl⟩))
theorem textN_kids (n : Nat) (K : List Fi) {k : Nat} (h : k < K.length) : (textN n K[k]).length ≤ (K.flatMap (textN n)).length := by
  have h1 := kids_take_len n K (k + 1)
  rw [kids_snoc n K h, List.length_append] at h1
  omega
set_option maxHeartbeats 32000000 in
theorem rtext_step {n : Nat} (ih : TextIH n) : TextIH (n + 1) := by
  intro w F vs vk d h ho hln
  obtain ⟨hFB, ⟨As, cs, es⟩, hS, A, ca, ek, hop⟩ := h.open_
  have hkl := hFB.kl
  have hcs := one_letters ho
  obtain ⟨R, hR⟩ : ∃ R, R = textN (n + 1) F := ⟨_, rfl⟩
  rw [← hR]
  rw [textN_succ] at hR hln
  show Calls Try.prog 25 #[.agg #[.int .i64 F.kind, sv F.typ, sv F.val, vs, vk]] w _
  obtain ⟨K, hKs⟩ : ∃ T, T = F.kids := ⟨_, rfl⟩
  rw [← hKs] at hkl ek hop hR hln hcs
  obtain ⟨B, hBs⟩ : ∃ T, T = F.subs := ⟨_, rfl⟩
  rw [← hBs] at es hS hR hln hcs
  generalize F.kind = kd at *
  generalize F.typ = T at *
  generalize F.val = V at *
  obtain ⟨m, hm⟩ : ∃ m, m = B.length := ⟨_, rfl⟩
  obtain ⟨q, hq⟩ : ∃ m, m = K.length := ⟨_, rfl⟩
  rw [← hm] at es
  rw [← hq] at ek hkl
  subst es ek
  obtain ⟨w1, hw1⟩ : ∃ y7 : World, y7 = w.alloc (.cells #[.int .i64 kd, sv T, sv V, .slice As m cs, .slice A q ca] 25) := ⟨_, rfl⟩
  obtain ⟨p, hp⟩ : ∃ y8, y8 = w.heap.size := ⟨_, rfl⟩
  have x1 : Ext w w1 := by rw [hw1]; exact (Mod.refl _ w).alloc _
  have BP : Blk w1 p 25 #[.int .i64 kd, sv T, sv V, .slice As m cs, .slice A q ca] := by rw [hw1, hp]; exact Blk.new w _ _
  have hcc : ∀ {wx : World}, Ext w1 wx → wx.cell? ⟨p, 0, none⟩ = some (.int .i64 kd) ∧ wx.cell? ⟨p, 1, none⟩ = some (sv T) ∧ wx.cell? ⟨p, 2, none⟩ = some (sv V) ∧ wx.cell? ⟨p, 3, none⟩ = some (.slice As m cs) ∧ wx.cell? ⟨p, 4, none⟩ = some (.slice A q ca) := fun x => (BP.mod x (fun h => h)).five.2
  obtain ⟨p0, p1, p2, p3, p4⟩ := hcc (Mod.refl _ w1)
  simp only [List.length_append, List.length_cons, List.length_nil] at hln
  replace hm := Lib.hid hm
  replace hq := Lib.hid hq
  replace hw1 := Lib.hid hw1
  replace hp := Lib.hid hp
  replace hR := Lib.hid hR
  clear BP h hFB hKs hBs ho
  go_enter Try.func25, Try.ntmps25
  go_upto_region 1 with fail
  rw [← hw1.out, ← hp.out]
  clear hw1 hp
  rcases hcs with ⟨hk, d2, ha⟩ | ⟨hk, ht, hv, hK⟩ | ⟨hk, ht, hbl8, hb16, hK⟩ | ⟨hk, ht, hK⟩
  · rcases hk with hk | hk | hk
    · subst hk
      have hmid : midB 0 T V B = [38] := by simp [midB]
      obtain ⟨L5, hL5⟩ : ∃ L, L = [(40 : UInt8), 38] := ⟨_, rfl⟩
      have hcat : (⟨#[40]⟩ : ByteArray) ++ ⟨#[38]⟩ = ⟨L5.toArray⟩ := by rw [hL5]; exact cat_data [40] [38]
      have hRR : R = (L5 ++ K.flatMap (textN n)) ++ [41] := by rw [hR.out, hmid, hL5]; rfl
      have hmdl := congrArg List.length hmid
      rw [List.length_singleton] at hmdl
      have hL5l : L5.length = 2 := by rw [hL5]; rfl
      have hmax : L5.length + (K.flatMap (textN n)).length + 1 ≤ 10000000 := by omega
      replace hRR := Lib.hid hRR
      replace hmax := Lib.hid hmax
      clear hmid hR hL5 hln hL5l hS hmdl
      obtain ⟨w2, hw2⟩ : ∃ y7 : World, y7 = w1.alloc (.cells #[.string ⟨#[38]⟩, .string ⟨#[124]⟩, .string ⟨#[33]⟩] 9) := ⟨_, rfl⟩
      obtain ⟨g, hg⟩ : ∃ y8, y8 = w1.heap.size := ⟨_, rfl⟩
      have x2 : Ext w1 w2 := by rw [hw2]; exact (Mod.refl _ w1).alloc _
      have BG : Blk w2 g 9 #[.string ⟨#[38]⟩, .string ⟨#[124]⟩, .string ⟨#[33]⟩] := by rw [hw2, hg]; exact Blk.new w1 _ _
      have g1 : w2.cell? ⟨g, 0, none⟩ = some (.string ⟨#[38]⟩) := BG.cell 0
      obtain ⟨q0, -, -, -, -⟩ := hcc x2
      rw [hw2] at g1 q0
      rw [hg] at g1
      go_wp2_with fail
      clear p0 p1 p2 p3 p4 hcat g1 q0 BG
      rw [← hw2]
      go_loopw [3, 4] (fun s0 i wr => ∃ k : Nat, k ≤ q ∧ i = .int .i64 k ∧ s0 = sv (L5 ++ (K.take k).flatMap (textN n)) ∧ Ext w1 wr) (fun _ i _ => q - (intOf i).toNat)
      case atStart => exact ⟨0, Nat.zero_le _, rfl, by simp, x2⟩
      case round =>
        obtain ⟨k, hk, rfl, rfl, hx⟩ := hrel
        obtain ⟨p0, p1, p2, p3, p4⟩ := hcc hx
        have hmx := hmax.out
        have htl := kids_take_len n K k
        by_cases hlt : k < q
        case neg =>
          have hbl : decide ((k : Int) < (q : Int)) = false := dfalse (by omega)
          have hbn : decide (k < q) = false := dfalse (by omega)
          rw [List.take_of_length_le (by have := hq.out; omega)]
          have hadd : ¬ 9223372036854775807 < (L5 ++ K.flatMap (textN n)).length + 1 := by rw [List.length_append]; omega
          generalize L5 ++ K.flatMap (textN n) = o at *
          have hcat : (⟨o.toArray⟩ : ByteArray) ++ ⟨#[41]⟩ = ⟨R.toArray⟩ := by rw [hRR.out]; exact cat_data o [41]
          clear hRR
          go_wp2_with fail
          go_ret
          exact ⟨rfl, ext_trans x1 hx⟩
        have hbl : decide ((k : Int) < (q : Int)) = true := dtrue (by omega)
        have hbn : decide (k < q) = true := dtrue (by omega)
        have hi0 : (0 : Int) ≤ (k : Int) := by omega
        have hi1 : (k : Int) < (q : Int) := by omega
        have hkb : k < K.length := by have := hq.out; omega
        obtain ⟨ag, ys, yk, e2, a0, a1, a2, a3, a4, h7⟩ := hop k hkb
        subst e2
        obtain ⟨⟨Y1, Y2, Y3, rfl⟩, Z1, Z2, Z3, rfl⟩ := h7.shape
        have y2 := ext_trans x1 hx
        replace a0 := ext_cell y2 a0
        replace a1 := ext_cell y2 a1
        replace a2 := ext_cell y2 a2
        replace a3 := ext_cell y2 a3
        replace a4 := ext_cell y2 a4
        have hsn := kids_snoc n K hkb
        have hkl7 := textN_kids n K hkb
        have hox := ha _ (List.getElem_mem hkb)
        have hadd : ¬ 9223372036854775807 < (L5 ++ (K.take k).flatMap (textN n)).length + (textN n K[k]).length := by rw [List.length_append]; omega
        have hj : L5 ++ (K.take (k + 1)).flatMap (textN n) = (L5 ++ (K.take k).flatMap (textN n)) ++ textN n K[k] := by rw [hsn, List.append_assoc]
        generalize K[k] = x at *
        have hc := ih (h7.ext y2) hox (by omega)
        generalize L5 ++ (K.take k).flatMap (textN n) = o at *
        generalize textN n x = tx at *
        have hcat : (⟨o.toArray⟩ : ByteArray) ++ ⟨tx.toArray⟩ = ⟨(o ++ tx).toArray⟩ := cat_data o tx
        replace hj := Lib.hid hj
        replace hc := Lib.hid hc
        clear hsn hkl7 htl hmx h7 hkb
        go_upto_region 10 with fail
        go_wp2_with fail
        refine hc.out.mono ?_
        rintro e w6 ⟨rfl, x6⟩
        have x7 := ext_trans hx x6
        clear hc a0 a1 a2 a3 a4 p0 p1 p2 p3 p4 hx
        go_wp2_with fail
        exact ⟨⟨k + 1, by omega, by go_num, by rw [hj.out], x7⟩, by simp [intOf] <;> omega⟩
    · subst hk
      have hmid : midB 1 T V B = [124] := by simp [midB]
      obtain ⟨L5, hL5⟩ : ∃ L, L = [(40 : UInt8), 124] := ⟨_, rfl⟩
      have hcat : (⟨#[40]⟩ : ByteArray) ++ ⟨#[124]⟩ = ⟨L5.toArray⟩ := by rw [hL5]; exact cat_data [40] [124]
      have hRR : R = (L5 ++ K.flatMap (textN n)) ++ [41] := by rw [hR.out, hmid, hL5]; rfl
      have hmdl := congrArg List.length hmid
      rw [List.length_singleton] at hmdl
      have hL5l : L5.length = 2 := by rw [hL5]; rfl
      have hmax : L5.length + (K.flatMap (textN n)).length + 1 ≤ 10000000 := by omega
      replace hRR := Lib.hid hRR
      replace hmax := Lib.hid hmax
      clear hmid hR hL5 hln hL5l hS hmdl
      obtain ⟨w2, hw2⟩ : ∃ y7 : World, y7 = w1.alloc (.cells #[.string ⟨#[38]⟩, .string ⟨#[124]⟩, .string ⟨#[33]⟩] 9) := ⟨_, rfl⟩
      obtain ⟨g, hg⟩ : ∃ y8, y8 = w1.heap.size := ⟨_, rfl⟩
      have x2 : Ext w1 w2 := by rw [hw2]; exact (Mod.refl _ w1).alloc _
      have BG : Blk w2 g 9 #[.string ⟨#[38]⟩, .string ⟨#[124]⟩, .string ⟨#[33]⟩] := by rw [hw2, hg]; exact Blk.new w1 _ _
      have g1 : w2.cell? ⟨g, 1, none⟩ = some (.string ⟨#[124]⟩) := BG.cell 1
      obtain ⟨q0, -, -, -, -⟩ := hcc x2
      rw [hw2] at g1 q0
      rw [hg] at g1
      go_wp2_with fail
      clear p0 p1 p2 p3 p4 hcat g1 q0 BG
      rw [← hw2]
      go_loopw [3, 4] (fun s0 i wr => ∃ k : Nat, k ≤ q ∧ i = .int .i64 k ∧ s0 = sv (L5 ++ (K.take k).flatMap (textN n)) ∧ Ext w1 wr) (fun _ i _ => q - (intOf i).toNat)
      case atStart => exact ⟨0, Nat.zero_le _, rfl, by simp, x2⟩
      case round =>
        obtain ⟨k, hk, rfl, rfl, hx⟩ := hrel
        obtain ⟨p0, p1, p2, p3, p4⟩ := hcc hx
        have hmx := hmax.out
        have htl := kids_take_len n K k
        by_cases hlt : k < q
        case neg =>
          have hbl : decide ((k : Int) < (q : Int)) = false := dfalse (by omega)
          have hbn : decide (k < q) = false := dfalse (by omega)
          rw [List.take_of_length_le (by have := hq.out; omega)]
          have hadd : ¬ 9223372036854775807 < (L5 ++ K.flatMap (textN n)).length + 1 := by rw [List.length_append]; omega
          generalize L5 ++ K.flatMap (textN n) = o at *
          have hcat : (⟨o.toArray⟩ : ByteArray) ++ ⟨#[41]⟩ = ⟨R.toArray⟩ := by rw [hRR.out]; exact cat_data o [41]
          clear hRR
          go_wp2_with fail
          go_ret
          exact ⟨rfl, ext_trans x1 hx⟩
        have hbl : decide ((k : Int) < (q : Int)) = true := dtrue (by omega)
        have hbn : decide (k < q) = true := dtrue (by omega)
        have hi0 : (0 : Int) ≤ (k : Int) := by omega
        have hi1 : (k : Int) < (q : Int) := by omega
        have hkb : k < K.length := by have := hq.out; omega
        obtain ⟨ag, ys, yk, e2, a0, a1, a2, a3, a4, h7⟩ := hop k hkb
        subst e2
        obtain ⟨⟨Y1, Y2, Y3, rfl⟩, Z1, Z2, Z3, rfl⟩ := h7.shape
        have y2 := ext_trans x1 hx
        replace a0 := ext_cell y2 a0
        replace a1 := ext_cell y2 a1
        replace a2 := ext_cell y2 a2
        replace a3 := ext_cell y2 a3
        replace a4 := ext_cell y2 a4
        have hsn := kids_snoc n K hkb
        have hkl7 := textN_kids n K hkb
        have hox := ha _ (List.getElem_mem hkb)
        have hadd : ¬ 9223372036854775807 < (L5 ++ (K.take k).flatMap (textN n)).length + (textN n K[k]).length := by rw [List.length_append]; omega
        have hj : L5 ++ (K.take (k + 1)).flatMap (textN n) = (L5 ++ (K.take k).flatMap (textN n)) ++ textN n K[k] := by rw [hsn, List.append_assoc]
        generalize K[k] = x at *
        have hc := ih (h7.ext y2) hox (by omega)
        generalize L5 ++ (K.take k).flatMap (textN n) = o at *
        generalize textN n x = tx at *
        have hcat : (⟨o.toArray⟩ : ByteArray) ++ ⟨tx.toArray⟩ = ⟨(o ++ tx).toArray⟩ := cat_data o tx
        replace hj := Lib.hid hj
        replace hc := Lib.hid hc
        clear hsn hkl7 htl hmx h7 hkb
        go_upto_region 10 with fail
        go_wp2_with fail
        refine hc.out.mono ?_
        rintro e w6 ⟨rfl, x6⟩
        have x7 := ext_trans hx x6
        clear hc a0 a1 a2 a3 a4 p0 p1 p2 p3 p4 hx
        go_wp2_with fail
        exact ⟨⟨k + 1, by omega, by go_num, by rw [hj.out], x7⟩, by simp [intOf] <;> omega⟩
    · subst hk
      have hmid : midB 2 T V B = [33] := by simp [midB]
      obtain ⟨L5, hL5⟩ : ∃ L, L = [(40 : UInt8), 33] := ⟨_, rfl⟩
      have hcat : (⟨#[40]⟩ : ByteArray) ++ ⟨#[33]⟩ = ⟨L5.toArray⟩ := by rw [hL5]; exact cat_data [40] [33]
      have hRR : R = (L5 ++ K.flatMap (textN n)) ++ [41] := by rw [hR.out, hmid, hL5]; rfl
      have hmdl := congrArg List.length hmid
      rw [List.length_singleton] at hmdl
      have hL5l : L5.length = 2 := by rw [hL5]; rfl
      have hmax : L5.length + (K.flatMap (textN n)).length + 1 ≤ 10000000 := by omega
      replace hRR := Lib.hid hRR
      replace hmax := Lib.hid hmax
      clear hmid hR hL5 hln hL5l hS hmdl
      obtain ⟨w2, hw2⟩ : ∃ y7 : World, y7 = w1.alloc (.cells #[.string ⟨#[38]⟩, .string ⟨#[124]⟩, .string ⟨#[33]⟩] 9) := ⟨_, rfl⟩
      obtain ⟨g, hg⟩ : ∃ y8, y8 = w1.heap.size := ⟨_, rfl⟩
      have x2 : Ext w1 w2 := by rw [hw2]; exact (Mod.refl _ w1).alloc _
      have BG : Blk w2 g 9 #[.string ⟨#[38]⟩, .string ⟨#[124]⟩, .string ⟨#[33]⟩] := by rw [hw2, hg]; exact Blk.new w1 _ _
      have g1 : w2.cell? ⟨g, 2, none⟩ = some (.string ⟨#[33]⟩) := BG.cell 2
      obtain ⟨q0, -, -, -, -⟩ := hcc x2
      rw [hw2] at g1 q0
      rw [hg] at g1
      go_wp2_with fail
      clear p0 p1 p2 p3 p4 hcat g1 q0 BG
      rw [← hw2]
      go_loopw [3, 4] (fun s0 i wr => ∃ k : Nat, k ≤ q ∧ i = .int .i64 k ∧ s0 = sv (L5 ++ (K.take k).flatMap (textN n)) ∧ Ext w1 wr) (fun _ i _ => q - (intOf i).toNat)
      case atStart => exact ⟨0, Nat.zero_le _, rfl, by simp, x2⟩
      case round =>
        obtain ⟨k, hk, rfl, rfl, hx⟩ := hrel
        obtain ⟨p0, p1, p2, p3, p4⟩ := hcc hx
        have hmx := hmax.out
        have htl := kids_take_len n K k
        by_cases hlt : k < q
        case neg =>
          have hbl : decide ((k : Int) < (q : Int)) = false := dfalse (by omega)
          have hbn : decide (k < q) = false := dfalse (by omega)
          rw [List.take_of_length_le (by have := hq.out; omega)]
          have hadd : ¬ 9223372036854775807 < (L5 ++ K.flatMap (textN n)).length + 1 := by rw [List.length_append]; omega
          generalize L5 ++ K.flatMap (textN n) = o at *
          have hcat : (⟨o.toArray⟩ : ByteArray) ++ ⟨#[41]⟩ = ⟨R.toArray⟩ := by rw [hRR.out]; exact cat_data o [41]
          clear hRR
          go_wp2_with fail
          go_ret
          exact ⟨rfl, ext_trans x1 hx⟩
        have hbl : decide ((k : Int) < (q : Int)) = true := dtrue (by omega)
        have hbn : decide (k < q) = true := dtrue (by omega)
        have hi0 : (0 : Int) ≤ (k : Int) := by omega
        have hi1 : (k : Int) < (q : Int) := by omega
        have hkb : k < K.length := by have := hq.out; omega
        obtain ⟨ag, ys, yk, e2, a0, a1, a2, a3, a4, h7⟩ := hop k hkb
        subst e2
        obtain ⟨⟨Y1, Y2, Y3, rfl⟩, Z1, Z2, Z3, rfl⟩ := h7.shape
        have y2 := ext_trans x1 hx
        replace a0 := ext_cell y2 a0
        replace a1 := ext_cell y2 a1
        replace a2 := ext_cell y2 a2
        replace a3 := ext_cell y2 a3
        replace a4 := ext_cell y2 a4
        have hsn := kids_snoc n K hkb
        have hkl7 := textN_kids n K hkb
        have hox := ha _ (List.getElem_mem hkb)
        have hadd : ¬ 9223372036854775807 < (L5 ++ (K.take k).flatMap (textN n)).length + (textN n K[k]).length := by rw [List.length_append]; omega
        have hj : L5 ++ (K.take (k + 1)).flatMap (textN n) = (L5 ++ (K.take k).flatMap (textN n)) ++ textN n K[k] := by rw [hsn, List.append_assoc]
        generalize K[k] = x at *
        have hc := ih (h7.ext y2) hox (by omega)
        generalize L5 ++ (K.take k).flatMap (textN n) = o at *
        generalize textN n x = tx at *
        have hcat : (⟨o.toArray⟩ : ByteArray) ++ ⟨tx.toArray⟩ = ⟨(o ++ tx).toArray⟩ := cat_data o tx
        replace hj := Lib.hid hj
        replace hc := Lib.hid hc
        clear hsn hkl7 htl hmx h7 hkb
        go_upto_region 10 with fail
        go_wp2_with fail
        refine hc.out.mono ?_
        rintro e w6 ⟨rfl, x6⟩
        have x7 := ext_trans hx x6
        clear hc a0 a1 a2 a3 a4 p0 p1 p2 p3 p4 hx
        go_wp2_with fail
        exact ⟨⟨k + 1, by omega, by go_num, by rw [hj.out], x7⟩, by simp [intOf] <;> omega⟩
  · subst hK
    have hVl := toldB_len V
    have hto := fun {wx : World} => Lib.hid (told_any (w := wx) (s := V) (by omega))
    rcases hk with hk | hk | hk
    · subst hk
      have hmid : midB 3 T V B = (T ++ [61]) ++ toldB V := by simp [midB]
      have hRR : R = (((40 :: T) ++ [61]) ++ toldB V) ++ [41] := by rw [hR.out, hmid]; simp
      generalize toldB V = U at *
      obtain ⟨T1, hT1⟩ : ∃ L, L = 40 :: T := ⟨_, rfl⟩
      rw [← hT1] at hRR
      obtain ⟨T2, hT2⟩ : ∃ L, L = T1 ++ [61] := ⟨_, rfl⟩
      rw [← hT2] at hRR
      obtain ⟨T3, hT3⟩ : ∃ L, L = T2 ++ U := ⟨_, rfl⟩
      rw [← hT3] at hRR
      have c1 : (⟨#[40]⟩ : ByteArray) ++ ⟨T.toArray⟩ = ⟨T1.toArray⟩ := by rw [hT1]; exact cat_data [40] T
      have c2 : (⟨T1.toArray⟩ : ByteArray) ++ ⟨#[61]⟩ = ⟨T2.toArray⟩ := by rw [hT2]; exact cat_data T1 [61]
      have c3 : (⟨T2.toArray⟩ : ByteArray) ++ ⟨U.toArray⟩ = ⟨T3.toArray⟩ := by rw [hT3]; exact cat_data T2 U
      have c4 : (⟨T3.toArray⟩ : ByteArray) ++ ⟨#[41]⟩ = ⟨R.toArray⟩ := by rw [hRR]; exact cat_data T3 [41]
      have n1 : T1.length ≤ 33 := by rw [hT1, List.length_cons]; omega
      have n2 : T2.length ≤ 35 := by rw [hT2, List.length_append]; simp; omega
      have n3 : T3.length ≤ 1000 := by rw [hT3, List.length_append]; omega
      have b1 : ¬ 9223372036854775807 < 1 + T.length := by omega
      have b2 : ¬ 9223372036854775807 < T1.length + 1 := by omega
      have b3 : ¬ 9223372036854775807 < T2.length + U.length := by omega
      have b4 : ¬ 9223372036854775807 < T3.length + 1 := by omega
      clear hmid hR hRR hT1 hT2 hT3 n1 n2 n3 hln hS hop hVl
      go_upto_region 26 with fail
      have x3 := x1.drew
      have z1 : Ext w1 w1.drew := (Mod.refl _ w1).drew
      go_region_held3 (fun wx => wx.cell? ⟨p, 0, none⟩ = some (.int .i64 3) ∧ wx.cell? ⟨p, 1, none⟩ = some (sv T) ∧ wx.cell? ⟨p, 2, none⟩ = some (sv V) ∧ wx.cell? ⟨p, 3, none⟩ = some (.slice As m cs) ∧ wx.cell? ⟨p, 4, none⟩ = some (.slice A q ca)) (first | exact hcc z1 | exact hcc z2) (first
        | (go_at_call 37; (refine hto.out.mono ?_); rintro e4 w4 ⟨rfl, x4⟩; have z2 := ext_trans z1 x4))
      go_wp2_with fail
      go_ret
      exact ⟨rfl, ext_trans x1 z2⟩
    · subst hk
      have hmid : midB 5 T V B = (T ++ [62, 61]) ++ toldB V := by simp [midB]
      have hRR : R = (((40 :: T) ++ [62, 61]) ++ toldB V) ++ [41] := by rw [hR.out, hmid]; simp
      generalize toldB V = U at *
      obtain ⟨T1, hT1⟩ : ∃ L, L = 40 :: T := ⟨_, rfl⟩
      rw [← hT1] at hRR
      obtain ⟨T2, hT2⟩ : ∃ L, L = T1 ++ [62, 61] := ⟨_, rfl⟩
      rw [← hT2] at hRR
      obtain ⟨T3, hT3⟩ : ∃ L, L = T2 ++ U := ⟨_, rfl⟩
      rw [← hT3] at hRR
      have c1 : (⟨#[40]⟩ : ByteArray) ++ ⟨T.toArray⟩ = ⟨T1.toArray⟩ := by rw [hT1]; exact cat_data [40] T
      have c2 : (⟨T1.toArray⟩ : ByteArray) ++ ⟨#[62, 61]⟩ = ⟨T2.toArray⟩ := by rw [hT2]; exact cat_data T1 [62, 61]
      have c3 : (⟨T2.toArray⟩ : ByteArray) ++ ⟨U.toArray⟩ = ⟨T3.toArray⟩ := by rw [hT3]; exact cat_data T2 U
      have c4 : (⟨T3.toArray⟩ : ByteArray) ++ ⟨#[41]⟩ = ⟨R.toArray⟩ := by rw [hRR]; exact cat_data T3 [41]
      have n1 : T1.length ≤ 33 := by rw [hT1, List.length_cons]; omega
      have n2 : T2.length ≤ 35 := by rw [hT2, List.length_append]; simp; omega
      have n3 : T3.length ≤ 1000 := by rw [hT3, List.length_append]; omega
      have b1 : ¬ 9223372036854775807 < 1 + T.length := by omega
      have b2 : ¬ 9223372036854775807 < T1.length + 2 := by omega
      have b3 : ¬ 9223372036854775807 < T2.length + U.length := by omega
      have b4 : ¬ 9223372036854775807 < T3.length + 1 := by omega
      clear hmid hR hRR hT1 hT2 hT3 n1 n2 n3 hln hS hop hVl
      go_upto_region 13 with fail
      have x3 := x1.drew
      have z1 : Ext w1 w1.drew := (Mod.refl _ w1).drew
      go_region_held3 (fun wx => wx.cell? ⟨p, 0, none⟩ = some (.int .i64 5) ∧ wx.cell? ⟨p, 1, none⟩ = some (sv T) ∧ wx.cell? ⟨p, 2, none⟩ = some (sv V) ∧ wx.cell? ⟨p, 3, none⟩ = some (.slice As m cs) ∧ wx.cell? ⟨p, 4, none⟩ = some (.slice A q ca)) (first | exact hcc z1 | exact hcc z2) (first
        | (go_at_call 37; (refine hto.out.mono ?_); rintro e4 w4 ⟨rfl, x4⟩; have z2 := ext_trans z1 x4))
      go_wp2_with fail
      go_ret
      exact ⟨rfl, ext_trans x1 z2⟩
    · subst hk
      have hmid : midB 6 T V B = (T ++ [60, 61]) ++ toldB V := by simp [midB]
      have hRR : R = (((40 :: T) ++ [60, 61]) ++ toldB V) ++ [41] := by rw [hR.out, hmid]; simp
      generalize toldB V = U at *
      obtain ⟨T1, hT1⟩ : ∃ L, L = 40 :: T := ⟨_, rfl⟩
      rw [← hT1] at hRR
      obtain ⟨T2, hT2⟩ : ∃ L, L = T1 ++ [60, 61] := ⟨_, rfl⟩
      rw [← hT2] at hRR
      obtain ⟨T3, hT3⟩ : ∃ L, L = T2 ++ U := ⟨_, rfl⟩
      rw [← hT3] at hRR
      have c1 : (⟨#[40]⟩ : ByteArray) ++ ⟨T.toArray⟩ = ⟨T1.toArray⟩ := by rw [hT1]; exact cat_data [40] T
      have c2 : (⟨T1.toArray⟩ : ByteArray) ++ ⟨#[60, 61]⟩ = ⟨T2.toArray⟩ := by rw [hT2]; exact cat_data T1 [60, 61]
      have c3 : (⟨T2.toArray⟩ : ByteArray) ++ ⟨U.toArray⟩ = ⟨T3.toArray⟩ := by rw [hT3]; exact cat_data T2 U
      have c4 : (⟨T3.toArray⟩ : ByteArray) ++ ⟨#[41]⟩ = ⟨R.toArray⟩ := by rw [hRR]; exact cat_data T3 [41]
      have n1 : T1.length ≤ 33 := by rw [hT1, List.length_cons]; omega
      have n2 : T2.length ≤ 35 := by rw [hT2, List.length_append]; simp; omega
      have n3 : T3.length ≤ 1000 := by rw [hT3, List.length_append]; omega
      have b1 : ¬ 9223372036854775807 < 1 + T.length := by omega
      have b2 : ¬ 9223372036854775807 < T1.length + 2 := by omega
      have b3 : ¬ 9223372036854775807 < T2.length + U.length := by omega
      have b4 : ¬ 9223372036854775807 < T3.length + 1 := by omega
      clear hmid hR hRR hT1 hT2 hT3 n1 n2 n3 hln hS hop hVl
      go_upto_region 15 with fail
      have x3 := x1.drew
      have z1 : Ext w1 w1.drew := (Mod.refl _ w1).drew
      go_region_held3 (fun wx => wx.cell? ⟨p, 0, none⟩ = some (.int .i64 6) ∧ wx.cell? ⟨p, 1, none⟩ = some (sv T) ∧ wx.cell? ⟨p, 2, none⟩ = some (sv V) ∧ wx.cell? ⟨p, 3, none⟩ = some (.slice As m cs) ∧ wx.cell? ⟨p, 4, none⟩ = some (.slice A q ca)) (first | exact hcc z1 | exact hcc z2) (first
        | (go_at_call 37; (refine hto.out.mono ?_); rintro e4 w4 ⟨rfl, x4⟩; have z2 := ext_trans z1 x4))
      go_wp2_with fail
      go_ret
      exact ⟨rfl, ext_trans x1 z2⟩
  · subst hk hK
    have hmid : midB 4 T V B = (T ++ [61]) ++ joinB B := by simp [midB]
    have hRR : R = (((40 :: T) ++ [61]) ++ joinB B) ++ [41] := by rw [hR.out, hmid]; simp
    have hjl := join_len B hbl8
    obtain ⟨J, hJ⟩ : ∃ J, J = joinB B := ⟨_, rfl⟩
    rw [← hJ] at hRR hjl
    obtain ⟨T1, hT1⟩ : ∃ L, L = 40 :: T := ⟨_, rfl⟩
    rw [← hT1] at hRR
    obtain ⟨T2, hT2⟩ : ∃ L, L = T1 ++ [61] := ⟨_, rfl⟩
    rw [← hT2] at hRR
    obtain ⟨T3, hT3⟩ : ∃ L, L = T2 ++ J := ⟨_, rfl⟩
    rw [← hT3] at hRR
    have n1 : T1.length ≤ 33 := by rw [hT1, List.length_cons]; omega
    have n2 : T2.length ≤ 35 := by rw [hT2, List.length_append]; simp; omega
    have n3 : T3.length ≤ 20000 := by rw [hT3, List.length_append]; omega
    have c1 := Lib.hid (show (⟨#[40]⟩ : ByteArray) ++ ⟨T.toArray⟩ = ⟨T1.toArray⟩ by rw [hT1]; exact cat_data [40] T)
    have c2 := Lib.hid (show (⟨T1.toArray⟩ : ByteArray) ++ ⟨#[61]⟩ = ⟨T2.toArray⟩ by rw [hT2]; exact cat_data T1 [61])
    have c3 := Lib.hid (show (⟨T2.toArray⟩ : ByteArray) ++ ⟨J.toArray⟩ = ⟨T3.toArray⟩ by rw [hT3]; exact cat_data T2 J)
    have c4 := Lib.hid (show (⟨T3.toArray⟩ : ByteArray) ++ ⟨#[41]⟩ = ⟨R.toArray⟩ by rw [hRR]; exact cat_data T3 [41])
    have b1 : ¬ 9223372036854775807 < 1 + T.length := by omega
    have b2 : ¬ 9223372036854775807 < T1.length + 1 := by omega
    have b3 : ¬ 9223372036854775807 < T2.length + J.length := by omega
    have b4 : ¬ 9223372036854775807 < T3.length + 1 := by omega
    replace hJ := Lib.hid hJ
    have hm16 : m ≤ 16 := by have := hm.out; omega
    have hjm : (joinB B).length ≤ 20000 := by rw [← hJ.out]; omega
    clear hmid hR hRR hT1 hT2 hT3 n1 n2 n3 hln hop
    go_wp2_with fail
    clear p0 p1 p2 p3 p4
    go_loopw [3, 5] (fun s0 i wr => ∃ k : Nat, k ≤ m ∧ i = .int .i64 k ∧ s0 = sv (joinB (B.take k)) ∧ Ext w1 wr) (fun _ i _ => m - (intOf i).toNat)
    case atStart => exact ⟨0, Nat.zero_le _, rfl, rfl, Mod.refl _ w1⟩
    case round =>
      obtain ⟨k, hk, rfl, rfl, hx⟩ := hrel
      obtain ⟨p0, p1, p2, p3, p4⟩ := hcc hx
      by_cases hlt : k < m
      case neg =>
        have hbl : decide ((k : Int) < (m : Int)) = false := dfalse (by omega)
        have hbn : decide (k < m) = false := dfalse (by omega)
        rw [List.take_of_length_le (by have := hm.out; omega), ← hJ.out]
        have d1 := c1.out
        have d2 := c2.out
        have d3 := c3.out
        have d4 := c4.out
        clear c1 c2 c3 c4 hJ hjm hS
        go_wp2_with fail
        go_ret
        exact ⟨rfl, ext_trans x1 hx⟩
      have hbl : decide ((k : Int) < (m : Int)) = true := dtrue (by omega)
      have hbn : decide (k < m) = true := dtrue (by omega)
      have hi0 : (0 : Int) ≤ (k : Int) := by omega
      have hi1 : (k : Int) < (m : Int) := by omega
      have hkb : k < B.length := by have := hm.out; omega
      obtain ⟨A9, c9, e9, _, _, _, h5⟩ := (Sl.ext hS (ext_trans x1 hx)).open_
      rw [← hm.out] at e9
      injection e9 with e1 e2 e3
      clear e2
      subst e1
      subst e3
      obtain ⟨ag, e2, _, h6⟩ := h5.at_ hkb
      subst e2
      have htl := join_take_len B k
      have htl2 := join_take_len B (k + 1)
      have hbx := hbl8 _ (List.getElem_mem hkb)
      by_cases hk0 : k = 0
      · have hbz : decide ((0 : Int) < (k : Int)) = false := dfalse (by omega)
        have hbz2 : decide (0 < k) = false := dfalse (by omega)
        have hj : joinB (B.take (k + 1)) = joinB (B.take k) ++ toldB B[k] := by
          subst hk0
          rw [joinB_one B hkb, List.take_zero, joinB, List.nil_append]
        have hlj := congrArg List.length hj
        rw [List.length_append] at hlj
        generalize B[k] = x at *
        have hto := told_any (w := wr) (s := x) (by omega)
        generalize joinB (B.take k) = o at *
        generalize toldB x = tx at *
        have hadd : ¬ 9223372036854775807 < o.length + tx.length := by omega
        have hcat : (⟨o.toArray⟩ : ByteArray) ++ ⟨tx.toArray⟩ = ⟨(o ++ tx).toArray⟩ := cat_data o tx
        replace hto := Lib.hid hto
        replace hj := Lib.hid hj
        clear h5 hk0 htl htl2 hlj hkb hbx
        have hk1 := Lib.hid (show k + 1 ≤ m by omega)
        go_wp2_with fail
        refine hto.out.mono ?_
        rintro e5 w5 ⟨rfl, x5⟩
        have x7 := ext_trans hx x5
        clear hto p0 p1 p2 p3 p4 h6 hx
        go_wp2_with fail
        exact ⟨⟨k + 1, hk1.out, by go_num, by rw [hj.out], x7⟩, by have := hk1.out; simp [intOf] <;> omega⟩
      · have hbz : decide ((0 : Int) < (k : Int)) = true := dtrue (by omega)
        have hbz2 : decide (0 < k) = true := dtrue (by omega)
        have hj := joinB_snoc B hkb (by omega)
        have hlj := congrArg List.length hj
        rw [List.length_append, List.length_append, List.length_singleton] at hlj
        generalize B[k] = x at *
        have hto := told_any (w := wr) (s := x) (by omega)
        generalize joinB (B.take k) = o at *
        generalize toldB x = tx at *
        obtain ⟨o2, ho2⟩ : ∃ o2, o2 = o ++ [42] := ⟨_, rfl⟩
        rw [← ho2] at hj
        have ho2l : o2.length = o.length + 1 := by rw [ho2, List.length_append]; rfl
        have hcat1 : (⟨o.toArray⟩ : ByteArray) ++ ⟨#[42]⟩ = ⟨o2.toArray⟩ := by rw [ho2]; exact cat_data o [42]
        have hadd1 : ¬ 9223372036854775807 < o.length + 1 := by omega
        have hadd : ¬ 9223372036854775807 < o2.length + tx.length := by omega
        have hcat : (⟨o2.toArray⟩ : ByteArray) ++ ⟨tx.toArray⟩ = ⟨(o2 ++ tx).toArray⟩ := cat_data o2 tx
        replace hto := Lib.hid hto
        replace hj := Lib.hid hj
        clear h5 hk0 htl htl2 hlj hkb hbx ho2 ho2l
        have hk1 := Lib.hid (show k + 1 ≤ m by omega)
        go_wp2_with fail
        refine hto.out.mono ?_
        rintro e5 w5 ⟨rfl, x5⟩
        have x7 := ext_trans hx x5
        clear hto p0 p1 p2 p3 p4 h6 hx
        go_wp2_with fail
        exact ⟨⟨k + 1, hk1.out, by go_num, by rw [hj.out], x7⟩, by have := hk1.out; simp [intOf] <;> omega⟩
  · subst hk hK
    have hmid : midB 7 T V B = T ++ [61, 42] := by simp [midB]
    have hRR : R = (40 :: T) ++ [61, 42, 41] := by rw [hR.out, hmid]; simp
    obtain ⟨T1, hT1⟩ : ∃ L, L = 40 :: T := ⟨_, rfl⟩
    rw [← hT1] at hRR
    have n1 : T1.length ≤ 33 := by rw [hT1, List.length_cons]; omega
    have c1 : (⟨#[40]⟩ : ByteArray) ++ ⟨T.toArray⟩ = ⟨T1.toArray⟩ := by rw [hT1]; exact cat_data [40] T
    have c2 : (⟨T1.toArray⟩ : ByteArray) ++ ⟨#[61, 42, 41]⟩ = ⟨R.toArray⟩ := by rw [hRR]; exact cat_data T1 [61, 42, 41]
    have b1 : ¬ 9223372036854775807 < 1 + T.length := by omega
    have b2 : ¬ 9223372036854775807 < T1.length + 3 := by omega
    clear hmid hR hRR hT1 n1 hln hS hop
    go_wp2_with fail
    go_ret
    exact ⟨rfl, x1⟩
theorem rtext_any : ∀ n, TextIH n
  | 0 => fun h => h.elim
  | n + 1 => rtext_step (rtext_any n)
end Go.Proofs.Ytekocbphdckmkaa
