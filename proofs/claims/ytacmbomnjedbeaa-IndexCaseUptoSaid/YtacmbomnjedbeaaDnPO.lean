/- dn: Print, whatever the bytes are; what is printed is parsed as it was; the law Back. -/
import Derived.Test.YtacmbomnjedbeaaDnPN
namespace Go.Proofs.Ytacmbomnjedbeaa
open Go.RowKit
set_option maxRecDepth 100000

set_option maxHeartbeats 8000000 in
theorem printW_any {w : World} {S : Nat → Prop} {v : Value} {L : List Av} (h : As w S v L) (hw : wN L ≤ 100000) :
    Calls Try.prog 61 #[v] w fun e w' => e = .returned (sv (printB L)) ∧ Ext w w' := by
  have hlw := wN_len L
  obtain ⟨A, c, rfl, h1, h2, h3, h4⟩ := h.open_ avc_len
  go_enter Try.func61, Try.ntmps61
  go_wp2_with fail
  go_loopw [3, 8] (fun vo i wr => ∃ k : Nat, k ≤ L.length ∧ i = .int .i64 k ∧ Own wr 5 vo ((printB (L.take k)).map bv) ∧ Fresh w.heap.size vo ∧ Ext w wr) (fun _ i _ => L.length - (intOf i).toNat)
  case atStart => exact ⟨0, Nat.zero_le _, rfl, Own.nil _ _, fresh_nil _ _ _, Mod.refl _ _⟩
  case round =>
    obtain ⟨k, hk, rfl, q1, q2, q3⟩ := hrel
    by_cases hlt : k < L.length
    case neg =>
      have hbl : decide ((k : Int) < (L.length : Int)) = false := dfalse (by omega)
      rw [List.take_of_length_le (by omega)] at q1
      have hcv := run_conv (P := Try.prog) Try.underlying65 Try.underlying5 Try.underlying9 q1.sl
      go_wp2_with fail
      go_ret
      exact ⟨rfl, q3⟩
    have hbl : decide ((k : Int) < (L.length : Int)) = true := dtrue (by omega)
    obtain ⟨ad, hA, hS, c0, c1⟩ := As.at_ (h4.ext q3) hlt
    subst hA
    have hsn : printB (L.take (k + 1)) = printB (L.take k) ++ (if k = 0 then [] else [44]) ++ partP L[k] := by
      rw [List.take_succ_eq_append_getElem hlt, printB_snoc]
      congr 2
      by_cases h0 : k = 0
      · subst h0; simp
      · rw [if_neg h0, if_neg (by intro h; have := congrArg List.length h; rw [List.length_take, List.length_nil] at this; omega)]
    have hol := printB_len (L.take k)
    have hwk := wN_snoc L hlt
    have hwt := wN_take L (k + 1)
    generalize L[k] = x at *
    generalize printB (L.take k) = o at *
    have hvw : x.2.length ≤ 100000 := by omega
    have htw : x.1.length ≤ 100000 := by omega
    have how : o.length ≤ 400000 := by omega
    clear hol hwk hwt
    have hx44 := Lib.hid (show (44 : Int) = ((44 : UInt8).toNat : Int) from rfl)
    have hx61 := Lib.hid (show (61 : Int) = ((61 : UInt8).toNat : Int) from rfl)
    obtain ⟨wb, hwb⟩ : ∃ wb, wb = wr.alloc (.cells #[.string ⟨x.1.toArray⟩, .string ⟨x.2.toArray⟩] 46) := ⟨_, rfl⟩
    have hB : Blk wb wr.heap.size 46 #[sv x.1, sv x.2] := by rw [hwb]; exact Blk.new wr _ _
    have hmb : Ext wr wb := by rw [hwb]; exact (Mod.refl _ wr).alloc _
    have hsb : wb.heap.size = wr.heap.size + 1 := by rw [hwb]; simp
    have hnv : ¬ own u3 wr.heap.size := fun hh => absurd (q1.lt hh) (Nat.lt_irrefl _)
    have q1b := q1.mod hmb (fun _ _ h => h)
    have hws := q3.size
    replace hwb := Lib.hid hwb
    replace hsb := Lib.hid hsb
    by_cases hk0 : k = 0
    · have hsn2 : printB (L.take (k + 1)) = o ++ x.1 ++ [61] ++ pvB x.2 := by rw [hsn, if_pos hk0, partP]; simp
      have hb0 : decide (0 < k) = false := dfalse (by omega)
      have n2 := Lib.hid (show o.length + x.1.length ≤ 140737488355328 by omega)
      have n3 := Lib.hid (show (o ++ x.1).length + 1 ≤ 140737488355328 by rw [List.length_append]; omega)
      have n4 := Lib.hid (show (o ++ x.1 ++ [61]).length + 3 * x.2.length ≤ 100000000 by simp only [List.length_append, List.length_singleton]; omega)
      replace hsn2 := Lib.hid hsn2
      clear hsn hvw htw how hk0
      obtain ⟨A3, c3, rfl⟩ := q1.shape
      rw [List.length_map] at q1 q1b q2 hnv ⊢
      go_wp2_with (first | ((with_reducible show wpList _ _ _ (⟨some 21, _, _, _, _, _⟩ :: _) _ _); rw [← hwb.out]; refine wp_appS tyB Try.underlying9 q1b n2.out rfl (.tmp 18) (.tmp 20) rfl rfl rfl ?_; intro v3 w3 g1 g2 g3; have B3 := hB.mod g2 hnv; have f3 := g3.fresh q2 (by have := hsb.out; omega); have y3 : ¬ own v3 wr.heap.size := g3.ne (by have := hsb.out; omega) hnv; have m3 : Mod (fun b => w.heap.size ≤ b) wb w3 := g2.mono (fun b _ hh => q2 b hh)) | ((with_reducible show wpList _ _ _ (⟨some 24, _, _, _, _, _⟩ :: _) _ _); refine wp_app1 tyB g1 hx61.out n3.out rfl (.tmp 22) (.tmp 23) rfl rfl rfl ?_; intro v4 w4 e1 e2 e3; have B4 := B3.mod e2 y3; have d4 : w4.cell? ⟨wr.heap.size, 1, none⟩ = some (sv x.2) := Blk.cell B4 1; have f4 := e3.fresh f3 (by have := hsb.out; have := m3.size; omega); have m4 : Mod (fun b => w.heap.size ≤ b) wb w4 := m3.then_ e2 (fun b _ hh => f3 b hh)))
      refine (printWild_any e1 n4.out).mono ?_
      rintro e w5 ⟨v5, rfl, t1, t2, t3⟩
      have f5 := t2.fresh f4 (by have := hsb.out; have := m4.size; omega)
      have m5 : Mod (fun b => w.heap.size ≤ b) wb w5 := m4.then_ t3 (fun b _ hh => f4 b hh)
      go_wp2_with fail
      refine ⟨⟨k + 1, by omega, by go_num, by rw [hsn2.out]; exact t1, f5, (ext_trans q3 hmb).trans m5 (fun _ _ h => h) (fun b hb hh => by have : w.heap.size ≤ b := hh; omega)⟩, by simp [intOf] <;> omega⟩
    have hsn2 : printB (L.take (k + 1)) = o ++ [44] ++ x.1 ++ [61] ++ pvB x.2 := by rw [hsn, if_neg hk0, partP]; simp
    have hb0 : decide (0 < k) = true := dtrue (by omega)
    have n1 := Lib.hid (show o.length + 1 ≤ 140737488355328 by omega)
    have n2 := Lib.hid (show (o ++ [44]).length + x.1.length ≤ 140737488355328 by simp only [List.length_append, List.length_singleton]; omega)
    have n3 := Lib.hid (show (o ++ [44] ++ x.1).length + 1 ≤ 140737488355328 by simp only [List.length_append, List.length_singleton]; omega)
    have n4 := Lib.hid (show (o ++ [44] ++ x.1 ++ [61]).length + 3 * x.2.length ≤ 100000000 by simp only [List.length_append, List.length_singleton]; omega)
    replace hsn2 := Lib.hid hsn2
    clear hsn hvw htw how hk0
    obtain ⟨A3, c3, rfl⟩ := q1.shape
    rw [List.length_map] at q1 q1b q2 hnv ⊢
    go_wp2_with (first | ((with_reducible show wpList _ _ _ (⟨some 17, _, _, _, _, _⟩ :: _) _ _); rw [← hwb.out]; refine wp_app1 tyB q1b hx44.out n1.out rfl (.tmp 15) (.tmp 16) rfl rfl (by show Value.slice (some ⟨wr.heap.size + 1, 0, none⟩) 1 1 = _; rw [hsb.out]) ?_; intro v2 w2 k1 k2 k3; have B2 := hB.mod k2 hnv; have d2 : w2.cell? ⟨wr.heap.size, 0, none⟩ = some (sv x.1) := Blk.cell B2 0; have f2 := k3.fresh q2 (by have := hsb.out; omega); have y2 : ¬ own v2 wr.heap.size := k3.ne (by have := hsb.out; omega) hnv; have m2 : Mod (fun b => w.heap.size ≤ b) wb w2 := k2.mono (fun b _ hh => q2 b hh)) | ((with_reducible show wpList _ _ _ (⟨some 21, _, _, _, _, _⟩ :: _) _ _); refine wp_appS tyB Try.underlying9 k1 n2.out rfl (.tmp 18) (.tmp 20) rfl rfl rfl ?_; intro v3 w3 g1 g2 g3; have B3 := B2.mod g2 y2; have f3 := g3.fresh f2 (by have := hsb.out; have := m2.size; omega); have y3 : ¬ own v3 wr.heap.size := g3.ne (by have := hsb.out; have := m2.size; omega) y2; have m3 : Mod (fun b => w.heap.size ≤ b) wb w3 := m2.then_ g2 (fun b _ hh => f2 b hh)) | ((with_reducible show wpList _ _ _ (⟨some 24, _, _, _, _, _⟩ :: _) _ _); refine wp_app1 tyB g1 hx61.out n3.out rfl (.tmp 22) (.tmp 23) rfl rfl rfl ?_; intro v4 w4 e1 e2 e3; have B4 := B3.mod e2 y3; have d4 : w4.cell? ⟨wr.heap.size, 1, none⟩ = some (sv x.2) := Blk.cell B4 1; have f4 := e3.fresh f3 (by have := hsb.out; have := m3.size; omega); have m4 : Mod (fun b => w.heap.size ≤ b) wb w4 := m3.then_ e2 (fun b _ hh => f3 b hh)))
    refine (printWild_any e1 n4.out).mono ?_
    rintro e w5 ⟨v5, rfl, t1, t2, t3⟩
    have f5 := t2.fresh f4 (by have := hsb.out; have := m4.size; omega)
    have m5 : Mod (fun b => w.heap.size ≤ b) wb w5 := m4.then_ t3 (fun b _ hh => f4 b hh)
    go_wp2_with fail
    refine ⟨⟨k + 1, by omega, by go_num, by rw [hsn2.out]; exact t1, f5, (ext_trans q3 hmb).trans m5 (fun _ _ h => h) (fun b hb hh => by have : w.heap.size ≤ b := hh; omega)⟩, by simp [intOf] <;> omega⟩

/-- A value as it is printed, byte by byte. -/
def pvR (first : Bool) : List UInt8 → List UInt8
  | [] => []
  | b :: t => strokeB b first t.isEmpty ++ pvR false t
theorem pvTo_drop (s : List UInt8) : ∀ (m k : Nat), k + m = s.length → pvTo s s.length = pvTo s k ++ pvR (k == 0) (s.drop k) := by
  intro m
  induction m with
  | zero => intro k h; obtain rfl : k = s.length := by omega
            rw [List.drop_length, pvR, List.append_nil]
  | succ m ih =>
    intro k h
    have hk : k < s.length := by omega
    rw [ih (k + 1) (by omega), pvTo, List.range_succ, List.flatMap_append, List.flatMap_cons, List.flatMap_nil, List.append_nil, ← pvTo, List.append_assoc]
    congr 1
    rw [List.drop_eq_getElem_cons hk, pvR]
    congr 2
    · rw [List.getD_eq_getElem?_getD, List.getElem?_eq_getElem hk]; rfl
    · rw [Bool.eq_iff_iff, beq_iff_eq, List.isEmpty_iff]
      constructor
      · intro h; exact List.drop_of_length_le (by omega)
      · intro h; have := congrArg List.length h; rw [List.length_drop, List.length_nil] at this; omega
theorem pvB_eq (s : List UInt8) : pvB s = pvR true s := by
  have := pvTo_drop s s.length 0 (by omega)
  rw [pvB, this, List.drop_zero]; rfl
theorem hex_dig : ∀ n, n < 16 → digB (hexB n) = some (UInt8.ofNat n) ∧ hexB n ∉ mayB := by decide
theorem hilo_of (b : UInt8) : (UInt8.ofNat (b.toNat / 16) <<< 4 ||| UInt8.ofNat (b.toNat % 16)) = b := by
  have hb := b.toNat_lt
  have h1 : (UInt8.ofNat (b.toNat / 16)).toNat = b.toNat / 16 := UInt8.toNat_ofNat_of_lt' (show b.toNat / 16 < 256 by omega)
  have h2 : (UInt8.ofNat (b.toNat % 16)).toNat = b.toNat % 16 := UInt8.toNat_ofNat_of_lt' (show b.toNat % 16 < 256 by omega)
  have := hilo_eq (UInt8.ofNat (b.toNat / 16)) (UInt8.ofNat (b.toNat % 16)) (by omega) (by omega)
  apply UInt8.toNat_inj.1
  omega
theorem esc_hex {c d : UInt8} {x y : UInt8} (hc : digB c = some x) (hm : c ∉ mayB) (hd : digB d = some y) (l : List UInt8) : escR (c :: d :: l) = some (x <<< 4 ||| y, l) := by
  rw [escR, if_neg hm, hc]
  show (((d :: l).head?).bind fun d => (digB d).map fun y => (x <<< 4 ||| y, l)) = _
  show ((digB d).map fun y => (x <<< 4 ||| y, l)) = _
  rw [hd]; rfl
theorem valF_esc {x : List UInt8} {b : UInt8} (h : ∀ l, escR (x ++ l) = some (b, l)) (f : Nat) (l out : List UInt8) (n : Nat) : valF (f + 1) (92 :: x ++ l) out n = valF f l (out ++ [b]) (out.length + 1) := by
  rw [List.cons_append, valF, if_neg (by decide), if_pos rfl, h]
  rfl
theorem valF_one {b : UInt8} (h : b ∉ sepB) (f : Nat) (l out : List UInt8) (n : Nat) : valF (f + 1) (b :: l) out n = valF f l (out ++ [b]) (if b = 32 then n else out.length + 1) := by
  have h44 : b ≠ 44 := fun e => h (by rw [e]; decide)
  have h92 : b ≠ 92 := fun e => h (by rw [e]; decide)
  rw [valF, if_neg h44, if_neg h92, if_neg h]
theorem sep_may {b : UInt8} (h : b ∈ sepB ∨ b = 35 ∨ b = 32) : b ∈ mayB := by
  rcases h with h | rfl | rfl
  · simp only [sepB, List.mem_cons, List.not_mem_nil, or_false] at h
    rcases h with rfl | rfl | rfl | rfl | rfl | rfl | rfl <;> decide
  · decide
  · decide
theorem stroke_go (b : UInt8) (first last : Bool) (f : Nat) (l out : List UInt8) (n : Nat) : valF (f + 1) (strokeB b first last ++ l) out n = valF f l (out ++ [b]) (if b = 32 ∧ first = false ∧ last = false then n else out.length + 1) := by
  unfold strokeB
  by_cases h1 : b.toNat < 32 ∨ 126 < b.toNat
  · have hb := b.toNat_lt
    have hb32 : b ≠ 32 := by rintro rfl; revert h1; decide
    rw [if_pos h1, if_neg (fun h => hb32 h.1)]
    obtain ⟨d1, d2⟩ := hex_dig (b.toNat / 16) (by omega)
    obtain ⟨d3, d4⟩ := hex_dig (b.toNat % 16) (by omega)
    exact valF_esc (x := [hexB (b.toNat / 16), hexB (b.toNat % 16)]) (fun l => by
      have := esc_hex d1 d2 d3 l
      rw [hilo_of] at this
      exact this) f l out n
  · rw [if_neg h1]
    by_cases h2 : b ∈ sepB ∨ (b = 35 ∧ first = true) ∨ (b = 32 ∧ (first = true ∨ last = true))
    · rw [if_pos h2]
      have hm : b ∈ mayB := sep_may (by rcases h2 with h | ⟨h, _⟩ | ⟨h, _⟩; exact .inl h; exact .inr (.inl h); exact .inr (.inr h))
      have hc : ¬ (b = 32 ∧ first = false ∧ last = false) := by
        rintro ⟨rfl, rfl, rfl⟩
        revert h2; decide
      rw [if_neg hc]
      exact valF_esc (x := [b]) (fun l => by show escR (b :: l) = _; rw [escR, if_pos hm]) f l out n
    · rw [if_neg h2]
      have hs : b ∉ sepB := fun h => h2 (.inl h)
      show valF (f + 1) (b :: l) out n = _
      rw [valF_one hs]
      congr 1
      by_cases h32 : b = 32
      · rw [if_pos h32, if_pos ⟨h32, by cases first; rfl; exact absurd (.inr (.inr ⟨h32, .inl rfl⟩)) h2, by cases last; rfl; exact absurd (.inr (.inr ⟨h32, .inr rfl⟩)) h2⟩]
      · rw [if_neg h32, if_neg (fun h => h32 h.1)]
/-- What stands behind a value ends it. -/
def Ends (r : List UInt8) : Prop := r = [] ∨ ∃ l, r = 44 :: l
theorem valF_end {r : List UInt8} (hr : Ends r) (f : Nat) (out : List UInt8) (n : Nat) : valF (f + 1) r out n = some (out.take n, r) := by
  rcases hr with rfl | ⟨l, rfl⟩
  · rw [valF]
  · rw [valF, if_pos rfl]
theorem valF_gap {r : List UInt8} (hr : Ends r) (g : Nat) : ∀ (f : Nat) (out : List UInt8) (n : Nat), n ≤ out.length → g < f → valF f (List.replicate g 32 ++ r) out n = some (out.take n, r) := by
  induction g with
  | zero => intro f out n _ hf; obtain ⟨f, rfl⟩ : ∃ f', f = f' + 1 := ⟨f - 1, by omega⟩
            exact valF_end hr f out n
  | succ g ih =>
    intro f out n hn hf
    obtain ⟨f, rfl⟩ : ∃ f', f = f' + 1 := ⟨f - 1, by omega⟩
    rw [List.replicate_succ, List.cons_append, valF_one (by decide), if_pos rfl, ih f (out ++ [32]) n (by rw [List.length_append]; omega) (by omega), List.take_append_of_le_length hn]
theorem stroke_pos (b : UInt8) (f l : Bool) : 1 ≤ (strokeB b f l).length := by
  unfold strokeB
  split
  · simp
  · split <;> simp
theorem valF_print {r : List UInt8} (hr : Ends r) (g : Nat) (s : List UInt8) : ∀ (first : Bool) (f : Nat) (out : List UInt8) (n : Nat), s ≠ [] → s.length + g < f → valF f (pvR first s ++ (List.replicate g 32 ++ r)) out n = some (out ++ s, r) := by
  induction s with
  | nil => intro _ _ _ _ h; exact absurd rfl h
  | cons b t ih =>
    intro first f out n _ hf
    obtain ⟨f, rfl⟩ : ∃ f', f = f' + 1 := ⟨f - 1, by omega⟩
    rw [List.length_cons] at hf
    rw [pvR, List.append_assoc, stroke_go]
    by_cases ht : t = []
    · subst ht
      rw [if_neg (by rintro ⟨_, _, h⟩; cases h), pvR, List.nil_append, valF_gap hr g f _ _ (by rw [List.length_append, List.length_singleton]; omega) (by rw [List.length_nil] at hf; omega), List.take_of_length_le (by rw [List.length_append, List.length_singleton]; omega)]
    · rw [ih false f (out ++ [b]) _ ht (by omega), List.append_assoc]
      rfl
theorem skip_gap (g : Nat) (l : List UInt8) : skipB (List.replicate g 32 ++ l) = skipB l := by
  induction g with
  | zero => rfl
  | succ g ih => rw [List.replicate_succ, List.cons_append, skipB, if_pos rfl, ih]
theorem skip_no {b : UInt8} (h : b ≠ 32) (l : List UInt8) : skipB (b :: l) = b :: l := by rw [skipB, if_neg h]
theorem stroke_head (b : UInt8) (l : Bool) : ∃ c t, strokeB b true l = c :: t ∧ c ≠ 32 := by
  unfold strokeB
  by_cases h1 : b.toNat < 32 ∨ 126 < b.toNat
  · rw [if_pos h1]; exact ⟨92, _, rfl, by decide⟩
  · rw [if_neg h1]
    by_cases h2 : b ∈ sepB ∨ (b = 35 ∧ true = true) ∨ (b = 32 ∧ (true = true ∨ l = true))
    · rw [if_pos h2]; exact ⟨92, _, rfl, by decide⟩
    · rw [if_neg h2]; exact ⟨b, _, rfl, fun h => h2 (.inr (.inr ⟨h, .inl rfl⟩))⟩
theorem pvR_len (s : List UInt8) : ∀ first, s.length ≤ (pvR first s).length := by
  induction s with
  | nil => intro _; simp
  | cons b t ih => intro first; rw [pvR, List.length_append, List.length_cons]; have := ih false; have := stroke_pos b first t.isEmpty; omega
theorem value_print {r : List UInt8} (hr : Ends r) (h g : Nat) {s : List UInt8} (hs : s ≠ []) : valueB (List.replicate h 32 ++ (pvB s ++ (List.replicate g 32 ++ r))) = some (s, r) := by
  rw [pvB_eq, valueB, skip_gap]
  obtain ⟨b, t, rfl⟩ := List.exists_cons_of_ne_nil hs
  obtain ⟨c, u, hc, hc2⟩ := stroke_head b t.isEmpty
  have hsk : skipB (pvR true (b :: t) ++ (List.replicate g 32 ++ r)) = pvR true (b :: t) ++ (List.replicate g 32 ++ r) := by
    rw [pvR, hc, List.cons_append, List.cons_append, skip_no hc2]
  rw [hsk, valF_print hr g (b :: t) true _ [] 0 hs (by have := pvR_len (b :: t) true; rw [List.length_append, List.length_append, List.length_replicate]; omega), List.nil_append]
theorem take_typ {t : List UInt8} (h : ∀ b ∈ t, typN b.toNat) (l : List UInt8) : (t ++ 61 :: l).takeWhile typP = t ∧ (t ++ 61 :: l).dropWhile typP = 61 :: l := by
  induction t with
  | nil => exact ⟨by rw [List.nil_append, List.takeWhile_cons, if_neg (by decide)], by rw [List.nil_append, List.dropWhile_cons, if_neg (by decide)]⟩
  | cons b t ih =>
    obtain ⟨h1, h2⟩ := ih (fun c hc => h c (List.mem_cons_of_mem _ hc))
    have hb : typP b = true := decide_eq_true (h b (List.mem_cons_self ..))
    exact ⟨by rw [List.cons_append, List.takeWhile_cons, if_pos hb, h1], by rw [List.cons_append, List.dropWhile_cons, if_pos hb, h2]⟩
theorem typ_head {t : List UInt8} (h : isTyp t) : ∃ c u, t = c :: u ∧ c ≠ 32 := by
  obtain ⟨h1, _, h3, _⟩ := h
  cases t with
  | nil => simp at h1
  | cons c u => exact ⟨c, u, rfl, fun h => by rw [h] at h3; exact absurd (show letN 32 from h3) (by decide)⟩
theorem part_val {x : List UInt8 × List UInt8} {t l r : List UInt8} (ht : isTyp t) (hv : valueB l = some (x.2, r)) (h0 : x.2 ≠ []) (hx : x.1 = t) (g : Nat) : partR (List.replicate g 32 ++ (t ++ 61 :: l)) = some (x, r) := by
  obtain ⟨c, u, hc, hc2⟩ := typ_head ht
  obtain ⟨k1, k2⟩ := take_typ ht.2.2.2 l
  have hsk : skipB (List.replicate g 32 ++ (t ++ 61 :: l)) = t ++ 61 :: l := by
    rw [skip_gap, hc, List.cons_append, skip_no hc2]
  unfold partR
  rw [hsk, k1, k2, if_pos ht, skip_no (by decide)]
  show (valueB l).bind _ = _
  rw [hv]
  show (if x.2 = [] then none else some ((t, x.2), r)) = _
  rw [if_neg h0, ← hx]
theorem part_print {a : Av} (ha : okA a) {r : List UInt8} (hr : Ends r) (g h : Nat) : partR (List.replicate g 32 ++ (partP a ++ (List.replicate h 32 ++ r))) = some (a, r) := by
  have h0 : a.2 ≠ [] := by intro h; have := ha.2.1; rw [h] at this; simp at this
  have he : partP a ++ (List.replicate h 32 ++ r) = a.1 ++ 61 :: (pvB a.2 ++ (List.replicate h 32 ++ r)) := by
    unfold partP; simp
  rw [he]
  exact part_val ha.1 (value_print hr 0 h h0) h0 rfl g
theorem ends_rest (L : List Av) : Ends (L.flatMap fun b => 44 :: partP b) := by
  cases L with
  | nil => exact .inl rfl
  | cons b L => exact .inr ⟨_, by rw [List.flatMap_cons, List.cons_append]⟩
theorem parse_print (L : List Av) : ∀ (a : Av) (f : Nat) (acc : List Av), okA a → (∀ b ∈ L, okA b) → L.length < f → parseF f (partP a ++ L.flatMap fun b => 44 :: partP b) acc = some (acc ++ a :: L) := by
  induction L with
  | nil =>
    intro a f acc ha _ hf
    obtain ⟨f, rfl⟩ : ∃ f', f = f' + 1 := ⟨f - 1, by omega⟩
    have := part_print ha (.inl rfl : Ends []) 0 0
    rw [List.flatMap_nil, parseF, show partR (partP a ++ []) = some (a, []) from this]
    rfl
  | cons b L ih =>
    intro a f acc ha hL hf
    obtain ⟨f, rfl⟩ : ∃ f', f = f' + 1 := ⟨f - 1, by omega⟩
    rw [List.length_cons] at hf
    have := part_print ha (ends_rest (b :: L)) 0 0
    have t2 : partR (partP a ++ (b :: L).flatMap fun b => 44 :: partP b) = some (a, (b :: L).flatMap fun b => 44 :: partP b) := this
    rw [parseF, t2, List.flatMap_cons, List.cons_append]
    show parseF f (partP b ++ _) (acc ++ [a]) = _
    rw [ih b f (acc ++ [a]) (hL b (List.mem_cons_self ..)) (fun c hc => hL c (List.mem_cons_of_mem _ hc)) (by omega), List.append_assoc]
    rfl
theorem partP_len (a : Av) : 1 ≤ (partP a).length := by unfold partP; simp only [List.length_append, List.length_singleton]; omega
theorem parts_len (L : List Av) : L.length ≤ (L.flatMap fun b => 44 :: partP b).length := by
  induction L with
  | nil => simp
  | cons b L ih => rw [List.flatMap_cons, List.length_append, List.length_cons, List.length_cons]; omega
/-- What is printed is parsed as it was. -/
theorem parse_back {L : List Av} (h : isName L) : parseB (printB L) = (L, 0) := by
  cases L with
  | nil => rfl
  | cons a L =>
    have ha := h.2 a (List.mem_cons_self ..)
    have hL := fun b hb => h.2 b (List.mem_cons_of_mem _ hb)
    have hp := partP_len a
    have hl := parts_len L
    have hne : printB (a :: L) ≠ [] := by
      rw [printB]; intro h; have := congrArg List.length h
      rw [List.length_append, List.length_nil] at this; omega
    rw [parseB, if_neg hne, printB, parse_print L a _ [] ha hL (by rw [List.length_append]; omega)]
    show (if isName (a :: L) then _ else _) = _
    rw [if_pos h]
    rfl
/-- Blanks round two parts change nothing. -/
theorem parse_blanks {a b : Av} (h : isName [a, b]) (g : Nat) : parseB (List.replicate g 32 ++ (printB [a] ++ (List.replicate g 32 ++ (44 :: (List.replicate g 32 ++ (printB [b] ++ List.replicate g 32)))))) = ([a, b], 0) := by
  have ha := h.2 a (List.mem_cons_self ..)
  have hb := h.2 b (List.mem_cons_of_mem _ (List.mem_cons_self ..))
  have e1 : printB [a] = partP a := by simp [printB]
  have e2 : printB [b] = partP b := by simp [printB]
  have hp := partP_len a
  rw [e1, e2]
  have h1 := part_print ha (.inr ⟨_, rfl⟩ : Ends (44 :: (List.replicate g 32 ++ (partP b ++ List.replicate g 32)))) g g
  have h2 := part_print hb (.inl rfl : Ends []) g g
  rw [List.append_nil] at h2
  have hne : List.replicate g 32 ++ (partP a ++ (List.replicate g 32 ++ (44 :: (List.replicate g 32 ++ (partP b ++ List.replicate g 32))))) ≠ [] := by
    intro h; have := congrArg List.length h
    rw [List.length_append, List.length_append, List.length_nil] at this; omega
  rw [parseB, if_neg hne]
  obtain ⟨n, hn⟩ : ∃ n, (List.replicate g 32 ++ (partP a ++ (List.replicate g 32 ++ (44 :: (List.replicate g 32 ++ (partP b ++ List.replicate g 32)))))).length = n + 1 := ⟨_, (Nat.succ_pred_eq_of_pos (List.length_pos_iff.2 hne)).symm⟩
  rw [hn, parseF, h1]
  show outP (parseF (n + 1) (List.replicate g 32 ++ (partP b ++ List.replicate g 32)) [a]) = _
  rw [parseF, h2]
  show (if isName [a, b] then _ else _) = _
  rw [if_pos h]
  rfl
/-- A value of strokes alone. -/
def strokes (U : Nat → UInt8) (v : List UInt8) : List UInt8 := v.flatMap fun b => [92, U (b.toNat / 16), hexB (b.toNat % 16)]
theorem valF_strokes {U : Nat → UInt8} (hU : ∀ n, n < 16 → digB (U n) = some (UInt8.ofNat n) ∧ U n ∉ mayB) (s : List UInt8) : ∀ (f : Nat) (out : List UInt8) (n : Nat), s ≠ [] ∨ n = out.length → s.length < f → valF f (strokes U s) out n = some (out ++ s, []) := by
  induction s with
  | nil =>
    intro f out n hn hf
    obtain ⟨f, rfl⟩ : ∃ f', f = f' + 1 := ⟨f - 1, by omega⟩
    have hn : n = out.length := by rcases hn with h | h; exact absurd rfl h; exact h
    show valF (f + 1) [] out n = _
    rw [valF, hn, List.take_length, List.append_nil]
  | cons b t ih =>
    intro f out n _ hf
    obtain ⟨f, rfl⟩ : ∃ f', f = f' + 1 := ⟨f - 1, by omega⟩
    rw [List.length_cons] at hf
    have hb := b.toNat_lt
    obtain ⟨d1, d2⟩ := hU (b.toNat / 16) (by omega)
    obtain ⟨d3, d4⟩ := hex_dig (b.toNat % 16) (by omega)
    have h1 := valF_esc (x := [U (b.toNat / 16), hexB (b.toNat % 16)]) (b := b) (fun l => by
      have := esc_hex d1 d2 d3 l
      rw [hilo_of] at this
      exact this) f (strokes U t) out n
    have he : strokes U (b :: t) = 92 :: [U (b.toNat / 16), hexB (b.toNat % 16)] ++ strokes U t := by unfold strokes; rw [List.flatMap_cons]
    rw [he, h1, ih f (out ++ [b]) _ (.inr (by rw [List.length_append, List.length_singleton])) (by omega), List.append_assoc]
    rfl
theorem strokes_len (U : Nat → UInt8) (v : List UInt8) : (strokes U v).length = 3 * v.length := by
  unfold strokes
  induction v with
  | nil => rfl
  | cons b v ih => rw [List.flatMap_cons, List.length_append, ih, List.length_cons]; simp only [List.length_cons, List.length_nil]; omega
theorem parse_strokes {U : Nat → UInt8} (hU : ∀ n, n < 16 → digB (U n) = some (UInt8.ofNat n) ∧ U n ∉ mayB) {t v : List UInt8} (h : isName [(t, v)]) : parseB (t ++ 61 :: strokes U v) = ([(t, v)], 0) := by
  have ha := h.2 (t, v) (List.mem_cons_self ..)
  have h0 : v ≠ [] := by intro h; have := ha.2.1; rw [h] at this; simp at this
  obtain ⟨b, u, hbu⟩ := List.exists_cons_of_ne_nil h0
  have hsk : skipB (strokes U v) = strokes U v := by
    rw [hbu]; unfold strokes; rw [List.flatMap_cons]
    exact skip_no (by decide) _
  have hv : valueB (strokes U v) = some (v, []) := by
    unfold valueB
    rw [hsk, valF_strokes hU v _ [] 0 (.inl h0) (by rw [strokes_len]; omega), List.nil_append]
  have hp : partR (t ++ 61 :: strokes U v) = some ((t, v), []) := part_val (x := (t, v)) ha.1 hv h0 rfl 0
  have hne : t ++ 61 :: strokes U v ≠ [] := by simp
  rw [parseB, if_neg hne, parseF, hp]
  show (if isName [(t, v)] then _ else _) = _
  rw [if_pos h]
  rfl

end Go.Proofs.Ytacmbomnjedbeaa
