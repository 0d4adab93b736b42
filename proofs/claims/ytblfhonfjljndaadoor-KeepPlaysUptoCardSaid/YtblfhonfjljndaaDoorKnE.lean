/- keep: two disks side by side; one alone, apart from what is named. -/
import Derived.Test.YtblfhonfjljndaaDoorRdU
import Derived.Test.YtblfhonfjljndaaDoorKpG
import Derived.Test.YtblfhonfjljndaaDoorFrmO
import Derived.Test.YtblfhonfjljndaaDoorRwIn
namespace Go.Proofs.YtblfhonfjljndaaDoor
open Go.RowKit Go.Maps Go.WideMaps
set_option maxRecDepth 100000

/-- Both disks lie apart from what N names, and from one another. -/
def Pair (N : Nat → Prop) (w : World) (v u : Value) (d d' : Ds) : Prop := ∃ S T, Dk S w v d ∧ Dz T w u d' ∧ (∀ k, S k → k < w.heap.size ∧ ¬ N k) ∧ (∀ k, T k → k < w.heap.size ∧ ¬ N k) ∧ ∀ k, S k → ¬ T k
section
variable {N N' : Nat → Prop} {w w' : World} {v u : Value} {d d' d1 : Ds}
theorem Pair.ext (h : Pair N w v u d d') (x : Ext w w') : Pair N w' v u d d' := by
  obtain ⟨S, T, h1, h2, h3, h4, h5⟩ := h
  have := x.size
  exact ⟨S, T, h1.ext x, h2.ext x, fun k hk => ⟨by have := (h3 k hk).1; omega, (h3 k hk).2⟩, fun k hk => ⟨by have := (h4 k hk).1; omega, (h4 k hk).2⟩, h5⟩
theorem Pair.more (h : Pair N w v u d d') (hN : ∀ k, N' k → N k ∨ w.heap.size ≤ k) : Pair N' w v u d d' := by
  obtain ⟨S, T, h1, h2, h3, h4, h5⟩ := h
  refine ⟨S, T, h1, h2, fun k hk => ⟨(h3 k hk).1, fun hn => ?_⟩, fun k hk => ⟨(h4 k hk).1, fun hn => ?_⟩, h5⟩
  · rcases hN k hn with h | h
    · exact (h3 k hk).2 h
    · have := (h3 k hk).1; omega
  · rcases hN k hn with h | h
    · exact (h4 k hk).2 h
    · have := (h4 k hk).1; omega
theorem Pair.left_ (h : Pair N w v u d d') (hN : ∀ k, N k → k < w.heap.size) {P : Program} {f : FuncId} {args : Array Value} {E : Ending → Prop} (hc : ∀ S, Dk S w v d → (∀ k, S k → k < w.heap.size ∧ ¬ N k) → Calls P f args w fun e w' => E e ∧ Dk (Grow S w) w' v d1 ∧ Mod S w w') :
    Calls P f args w fun e w' => E e ∧ Pair N w' v u d1 d' ∧ Mod (fun k => ¬ N k) w w' := by
  obtain ⟨S, T, h1, h2, h3, h4, h5⟩ := h
  refine (hc S h1 h3).mono fun e w' ⟨e1, e2, e3⟩ => ⟨e1, ⟨_, T, e2.cut, h2.mod e3 fun k _ hk hs => h5 k hs hk, fun k hk => ⟨hk.2, fun hn => ?_⟩, fun k hk => ⟨Nat.lt_of_lt_of_le (h4 k hk).1 e3.size, (h4 k hk).2⟩, fun k hk ht => ?_⟩, e3.mono fun k _ hk => (h3 k hk).2⟩
  · rcases hk.1 with h | h
    · exact (h3 k h).2 hn
    · have := hN k hn; omega
  · rcases hk.1 with h | h
    · exact h5 k h ht
    · have := (h4 k ht).1; omega
theorem Pair.right_ (h : Pair N w v u d d') (hN : ∀ k, N k → k < w.heap.size) {P : Program} {f : FuncId} {args : Array Value} {E : Ending → Prop} (hc : ∀ T, Dz T w u d' → (∀ k, T k → k < w.heap.size ∧ ¬ N k) → Calls P f args w fun e w' => E e ∧ Dz (Grow T w) w' u d1 ∧ Mod T w w') :
    Calls P f args w fun e w' => E e ∧ Pair N w' v u d d1 ∧ Mod (fun k => ¬ N k) w w' := by
  obtain ⟨S, T, h1, h2, h3, h4, h5⟩ := h
  refine (hc T h2 h4).mono fun e w' ⟨e1, e2, e3⟩ => ⟨e1, ⟨S, _, h1.mod e3 fun k _ hs hk => h5 k hs hk, e2.cut, fun k hk => ⟨Nat.lt_of_lt_of_le (h3 k hk).1 e3.size, (h3 k hk).2⟩, fun k hk => ⟨hk.2, fun hn => ?_⟩, fun k hs hk => ?_⟩, e3.mono fun k _ hk => (h4 k hk).2⟩
  · rcases hk.1 with h | h
    · exact (h4 k h).2 hn
    · have := hN k hn; omega
  · rcases hk.1 with h | h
    · exact h5 k hs h
    · have := (h3 k hs).1; omega
end
theorem each_one (F : Ds → List UInt8 → Ds × Nat) (d : Ds) (x : List UInt8) : eachD F d [x] = F d x := by
  unfold eachD
  by_cases h : (F d x).2 = 0
  · rw [if_neg (by simpa using h)]
    unfold eachD
    rw [← h]
  · rw [if_pos h]
theorem Pair.less {N N' : Nat → Prop} {w : World} {v u : Value} {d d' : Ds} (h : Pair N w v u d d') (hN : ∀ k, N' k → N k) : Pair N' w v u d d' := h.more fun k hk => .inl (hN k hk)
/-- A new block stands apart. -/
theorem Pair.new {N : Nat → Prop} {w : World} {v u : Value} {d d' : Ds} (h : Pair N w v u d d') (hN : ∀ k, N k → k < w.heap.size) (o : Obj) : Pair (fun k => N k ∨ k = w.heap.size) (w.alloc o) v u d d' ∧ (∀ k, (N k ∨ k = w.heap.size) → k < (w.alloc o).heap.size) ∧ Ext w (w.alloc o) := by
  have e : (w.alloc o).heap.size = w.heap.size + 1 := by simp
  refine ⟨(h.more fun k hk => hk.imp id fun e => by omega).ext ((Mod.refl _ w).alloc _), fun k hk => ?_, (Mod.refl _ w).alloc _⟩
  rcases hk with h | h
  · have := hN k h; omega
  · omega
section
variable {N F : Nat → Prop} {w w' : World} {v u : Value} {d d' d1 : Ds}
theorem Pair.mod (h : Pair N w v u d d') (hm : Mod F w w') (hF : ∀ k, F k → N k) : Pair N w' v u d d' := by
  obtain ⟨S, T, h1, h2, h3, h4, h5⟩ := h
  have := hm.size
  exact ⟨S, T, h1.mod hm fun k _ hs hf => (h3 k hs).2 (hF k hf), h2.mod hm fun k _ hs hf => (h4 k hs).2 (hF k hf), fun k hk => ⟨by have := (h3 k hk).1; omega, (h3 k hk).2⟩, fun k hk => ⟨by have := (h4 k hk).1; omega, (h4 k hk).2⟩, h5⟩
/-- The document's Disk, apart from what N names. -/
def Sole (N : Nat → Prop) (w : World) (u : Value) (d : Ds) : Prop := ∃ T, Dz T w u d ∧ ∀ k, T k → k < w.heap.size ∧ ¬ N k
theorem Sole.ext (h : Sole N w u d) (x : Ext w w') : Sole N w' u d := by
  obtain ⟨T, h1, h2⟩ := h
  have := x.size
  exact ⟨T, h1.ext x, fun k hk => ⟨by have := (h2 k hk).1; omega, (h2 k hk).2⟩⟩
theorem Sole.more {N' : Nat → Prop} (h : Sole N w u d) (hN : ∀ k, N' k → N k ∨ w.heap.size ≤ k) : Sole N' w u d := by
  obtain ⟨T, h1, h2⟩ := h
  refine ⟨T, h1, fun k hk => ⟨(h2 k hk).1, fun hn => ?_⟩⟩
  rcases hN k hn with h | h
  · exact (h2 k hk).2 h
  · have := (h2 k hk).1; omega
theorem Sole.call (h : Sole N w u d) (hN : ∀ k, N k → k < w.heap.size) {P : Program} {f : FuncId} {args : Array Value} {E : Ending → Prop} (hc : ∀ T, Dz T w u d → (∀ k, T k → k < w.heap.size ∧ ¬ N k) → Calls P f args w fun e w' => E e ∧ Dz (Grow T w) w' u d1 ∧ Mod T w w') :
    Calls P f args w fun e w' => E e ∧ Sole N w' u d1 ∧ Mod (fun k => ¬ N k) w w' := by
  obtain ⟨T, h1, h2⟩ := h
  refine (hc T h1 h2).mono fun e w' ⟨e1, e2, e3⟩ => ⟨e1, ⟨_, e2.cut, fun k hk => ⟨hk.2, fun hn => ?_⟩⟩, e3.mono fun k _ hk => (h2 k hk).2⟩
  rcases hk.1 with h | h
  · exact (h2 k h).2 hn
  · have := hN k hn; omega
theorem Pair.rightS (h : Pair N w v u d d') {P : Program} {f : FuncId} {args : Array Value} {E : Ending → Prop} (hc : ∀ N', (∀ k, N k → N' k) → (∀ k, N' k → N k ∨ k < w.heap.size) → Sole N' w u d' → Calls P f args w fun e w' => E e ∧ Sole N' w' u d1 ∧ Mod (fun k => ¬ N' k) w w') :
    Calls P f args w fun e w' => E e ∧ Pair N w' v u d d1 ∧ Mod (fun k => ¬ N k) w w' := by
  obtain ⟨S, T, h1, h2, h3, h4, h5⟩ := h
  refine (hc (fun k => N k ∨ S k) (fun k h => .inl h) (fun k h => h.imp id fun h => (h3 k h).1) ⟨T, h2, fun k hk => ⟨(h4 k hk).1, fun hn => hn.elim (h4 k hk).2 fun hs => h5 k hs hk⟩⟩).mono fun e w' ⟨e1, ⟨T', e2, e3⟩, e4⟩ => ⟨e1, ⟨S, T', h1.mod e4 fun k _ hs hn => hn (.inr hs), e2, fun k hk => ⟨Nat.lt_of_lt_of_le (h3 k hk).1 e4.size, (h3 k hk).2⟩, fun k hk => ⟨(e3 k hk).1, fun hn => (e3 k hk).2 (.inl hn)⟩, fun k hs hk => (e3 k hk).2 (.inr hs)⟩, e4.mono fun k _ hk hn => hk (.inl hn)⟩
end
end Go.Proofs.YtblfhonfjljndaaDoor
namespace Go.Proofs.YtblfhonfjljndaaDoor
open Go.RowKit Go.Maps Go.WideMaps
set_option maxRecDepth 100000

section
variable {N V : Nat → Prop} {w w' : World} {u y : Value} {d : Ds} {b p : List UInt8}
theorem codeR_is (r : Option (List UInt8)) : ((codeR r : Int) == 0) = r.isSome := by cases r <;> rfl
set_option maxHeartbeats 4000000 in
theorem rhas_any (h : Sole N w u d) (x : List UInt8) :
    Calls Tryd.prog 56 #[u, sv x] w fun e w' => e = .returned (.bool (readD d x).isSome) ∧ Ext w w' := by
  obtain ⟨T, h1, _⟩ := h
  have hc := rread_any h1 x
  have hk := codeR_is (readD d x)
  clear h1
  generalize readD d x = r at *
  go_enter Tryd.func56, Tryd.ntmps56
  go_wp2_with fail
  refine hc.mono ?_
  rintro e w1 ⟨v1, rfl, -, -, x1⟩
  clear hc
  go_wp2_with fail
  go_ret
  exact ⟨rfl, x1⟩
def wholeD (d : Ds) (x b : List UInt8) : Ds × Nat :=
  bindD (rmT d (x ++ [126])) fun d1 => bindD (whole1 d1 (x ++ [126]) b) fun d2 => bindD (eachD syncD d2 [x ++ [126]]) fun d3 => renameD d3 (x ++ [126]) x
set_option maxHeartbeats 16000000 in
theorem rwhole_any (h : Sole N w u d) (hN : ∀ k, N k → k < w.heap.size) (x : List UInt8) (hxl : x.length ≤ 1000000) (hy : Bs w N y b) (hbl : b.length ≤ 100000) :
    Calls Tryd.prog 31 #[u, sv x, y] w fun e w' => e = .returned (ev (wholeD d x b).2) ∧ Sole N w' u (wholeD d x b).1 ∧ Mod (fun k => ¬ N k) w w' := by
  obtain ⟨R, hR⟩ : ∃ R, R = wholeD d x b := ⟨_, rfl⟩
  rw [← hR]
  unfold wholeD at hR
  obtain ⟨t, ht⟩ : ∃ t, t = x ++ [126] := ⟨_, rfl⟩
  rw [← ht] at hR
  have hcat : ((⟨x.toArray⟩ : ByteArray) ++ ⟨#[126]⟩) = ⟨t.toArray⟩ := by rw [ht]; exact cat_data x [126]
  replace ht := Lib.hid ht
  replace hR := Lib.hid hR
  have hsz := sv_size x
  have hsh : ∃ A n c, y = .slice A n c := by obtain ⟨A, c, e, _⟩ := hy.open_; exact ⟨A, _, c, e⟩
  obtain ⟨Ay, ny, cy, rfl⟩ := hsh
  have hc1 := rhas_any h t
  have hcase : ((readD d t).isSome = false ∧ rmT d t = (d, 0)) ∨ ((readD d t).isSome = true ∧ rmT d t = removeD d t) := by
    unfold rmT
    cases hb : readD d t with
    | none => exact .inl ⟨rfl, by simp⟩
    | some b => exact .inr ⟨rfl, by simp [each_one]⟩
  go_enter Tryd.func31, Tryd.ntmps31
  go_wp2_with fail
  refine hc1.mono ?_
  rintro e w1 ⟨rfl, x1⟩
  have h1 := h.ext x1
  have hN1 : ∀ k, N k → k < w1.heap.size := fun k hk => Nat.lt_of_lt_of_le (hN k hk) x1.size
  have hy1 := hy.mod x1 fun _ _ _ h => h
  have m1 : Mod (fun k => ¬ N k) w w1 := x1.mono fun _ _ h => h.elim
  clear hc1 h hN hy x1
  rcases hcase with ⟨hr1, hr2⟩ | ⟨hr1, hr2⟩
  case' inl =>
    rw [hr1]
    rw [hr2, bindD_ok] at hR
    clear hr1 hr2
    go_wp2_with fail
  case' inr =>
    rw [hr1]
    rw [hr2] at hR
    have hc2 := h1.call hN1 fun T hd hT => rremove_any hd t
    clear hr1 hr2
    generalize removeD d t = r at hc2 hR
    obtain ⟨d1, n1⟩ := r
    simp only at hc2
    go_wp2_with fail
    refine hc2.mono ?_
    rintro e w2 ⟨rfl, h2, m2⟩
    have m12 := m1.then_ m2 fun _ _ h => h
    have hy2 := hy1.mod m2 fun k _ hk hn => hn hk
    have hN2 : ∀ k, N k → k < w2.heap.size := fun k hk => Nat.lt_of_lt_of_le (hN1 k hk) m2.size
    clear hc2 h1 m1 m2 hy1 hN1
    by_cases hn : n1 = 0
    case neg =>
      rw [bindD_err hn] at hR
      have hb3 := n_ne0 hn
      have hR2 := hR.out
      subst hR2
      clear hR
      go_wp2_with fail
      go_ret
      exact ⟨rfl, h2, m12⟩
    subst hn
    rw [bindD_ok] at hR
    have h1 := h2
    have m1 := m12
    have hy1 := hy2
    have hN1 := hN2
    clear h2 m12 hy2 hN2 w1
    obtain ⟨w1, rfl⟩ : ∃ w1, w1 = w2 := ⟨_, rfl⟩
    clear d
    obtain ⟨d, rfl⟩ : ∃ d, d = d1 := ⟨_, rfl⟩
    go_wp2_with fail
  all_goals
    have hc3 := h1.call hN1 fun T hd hT => rappend_any hd t hy1 hbl fun k hk hs => (hT k hs).2 hk
    generalize hq : whole1 d t b = r at hR
    rw [show appendD d t [b] = r from hq] at hc3
    clear hq
    obtain ⟨d2, n2⟩ := r
    simp only at hc3
    refine hc3.mono ?_
    rintro e w3 ⟨rfl, h3, m3⟩
    have m13 := m1.then_ m3 fun _ _ h => h
    have hN3 : ∀ k, N k → k < w3.heap.size := fun k hk => Nat.lt_of_lt_of_le (hN1 k hk) m3.size
    clear hc3 h1 m1 m3 hy1 hN1
    by_cases hn : n2 = 0
    case neg =>
      rw [bindD_err hn] at hR
      have hb3 := b_ne0 hn
      have hR2 := hR.out
      subst hR2
      clear hR
      go_wp2_with fail
      go_ret
      exact ⟨rfl, h3, m13⟩
    subst hn
    rw [bindD_ok, each_one] at hR
    have hc4 := h3.call hN3 fun T hd hT => rsync_any hd t
    generalize syncD d2 t = r at hc4 hR
    obtain ⟨d3, n3⟩ := r
    simp only at hc4
    go_wp2_with fail
    refine hc4.mono ?_
    rintro e w4 ⟨rfl, h4, m4⟩
    have m14 := m13.then_ m4 fun _ _ h => h
    have hN4 : ∀ k, N k → k < w4.heap.size := fun k hk => Nat.lt_of_lt_of_le (hN3 k hk) m4.size
    clear hc4 h3 m13 m4 hN3
    by_cases hn : n3 = 0
    case neg =>
      rw [bindD_err hn] at hR
      have hb3 := b_ne0 hn
      have hR2 := hR.out
      subst hR2
      clear hR
      go_wp2_with fail
      go_ret
      exact ⟨rfl, h4, m14⟩
    subst hn
    rw [bindD_ok] at hR
    have hc5 := h4.call hN4 fun T hd hT => rrename_any hd t x
    generalize renameD d3 t x = r at hc5 hR
    have hR2 := hR.out
    subst hR2
    clear hR
    go_wp2_with fail
    refine hc5.mono ?_
    rintro e w5 ⟨rfl, h5, m5⟩
    clear hc5
    go_wp2_with fail
    go_ret
    exact ⟨rfl, h5, m14.then_ m5 fun _ _ h => h⟩
set_option maxHeartbeats 8000000 in
theorem rsave_any (h : Sole N w u d) (hN : ∀ k, N k → k < w.heap.size) (x : List UInt8) (hxl : x.length ≤ 1000000) {V : Nat → Prop} (hy : Bs w V y p) (hpl : p.length ≤ 50000) (hV : ∀ k, V k → k < w.heap.size) :
    Calls Tryd.prog 9 #[u, sv x, y] w fun e w' => e = .returned (ev (saveD d x p).2) ∧ Sole N w' u (saveD d x p).1 ∧ Mod (fun k => ¬ N k) w w' := by
  have hpv : ∃ bd, u = pv bd := by obtain ⟨T, ⟨bd, _, _, e, _⟩, _⟩ := h; exact ⟨bd, e⟩
  obtain ⟨bd, rfl⟩ := hpv
  have hsz := sv_size x
  obtain ⟨R, hR⟩ : ∃ R, R = saveD d x p := ⟨_, rfl⟩
  rw [← hR]
  unfold saveD at hR
  have hce := rencode_any hy (by omega)
  have hsh : ∃ A n c, y = .slice A n c := by obtain ⟨A, c, e, _⟩ := hy.open_; exact ⟨A, _, c, e⟩
  obtain ⟨A0, n0, c0, rfl⟩ := hsh
  clear hy
  by_cases h1 : x.length < 1
  · rw [if_pos (.inl h1)] at hR
    have hb : decide ((x.length : Int) < 1) = true := dtrue (by omega)
    subst hR
    go_enter Tryd.func9, Tryd.ntmps9
    go_wp2_with fail
    go_ret
    exact ⟨rfl, h, Mod.refl _ _⟩
  by_cases h2 : 60 < x.length
  · rw [if_pos (.inr h2)] at hR
    have hb : decide ((x.length : Int) < 1) = false := dfalse (by omega)
    have hb2 : decide ((60 : Int) < (x.length : Int)) = true := dtrue (by omega)
    subst hR
    go_enter Tryd.func9, Tryd.ntmps9
    go_wp2_with fail
    go_ret
    exact ⟨rfl, h, Mod.refl _ _⟩
  rw [if_neg (by omega)] at hR
  have hR1 : R = wholeD d x (frec p) := hR
  have hb : decide ((x.length : Int) < 1) = false := dfalse (by omega)
  have hb2 : decide ((60 : Int) < (x.length : Int)) = false := dfalse (by omega)
  clear hR
  replace hR1 := Lib.hid hR1
  go_enter Tryd.func9, Tryd.ntmps9
  go_wp2_with fail
  refine hce.mono ?_
  rintro e w1 ⟨v1, rfl, o1, f1, x1⟩
  have hs1 : Sole (fun k => N k ∨ own v1 k) w1 (pv bd) d := (h.more (N' := fun k => N k ∨ own v1 k) fun k hk => hk.imp id fun h => f1 k h).ext x1
  have hc2 := rwhole_any hs1 (fun k hk => hk.elim (fun h => Nat.lt_of_lt_of_le (hN k h) x1.size) fun h => o1.lt h) x hxl (o1.sl.mono fun k _ h => .inr h) (by rw [frec_len]; omega)
  rw [← hR1.out] at hc2
  clear hce h hs1 hR1
  go_wp2_with fail
  refine hc2.mono ?_
  rintro e w2 ⟨rfl, h2, m2⟩
  clear hc2
  go_wp2_with fail
  go_ret
  exact ⟨rfl, h2.more fun k hk => .inl (.inl hk), (x1.mono (G := fun k => ¬ N k) fun _ _ h => h.elim).then_ m2 fun k _ hk hn => hk (.inl hn)⟩
set_option maxHeartbeats 8000000 in
theorem rload_any (h : Sole N w u d) (x : List UInt8) (hlen : ∀ b, readD d x = some b → b.length ≤ 1073741824) :
    Calls Tryd.prog 11 #[u, sv x] w fun e w' => ∃ v', e = .returned (.tuple #[v', ev (loadD d x).2]) ∧ Own w' 5 v' ((loadD d x).1.map bv) ∧ Fresh w.heap.size v' ∧ Ext w w' := by
  have hpv : ∃ bd, u = pv bd := by obtain ⟨T, ⟨bd, _, _, e, _⟩, _⟩ := h; exact ⟨bd, e⟩
  obtain ⟨bd, rfl⟩ := hpv
  obtain ⟨T, h1, _⟩ := h
  have hcr := rread_any h1 x
  clear h1
  cases hx : readD d x with
  | none =>
    have e : loadD d x = ([], 7) := by unfold loadD; rw [hx]
    rw [e]
    rw [hx, codeR_none] at hcr
    clear hlen hx e
    go_enter Tryd.func11, Tryd.ntmps11
    go_wp2_with fail
    refine hcr.mono ?_
    rintro e w1 ⟨u, rfl, o1, f1, x1⟩
    clear hcr
    go_wp2_with fail
    go_ret2
    exact ⟨_, rfl, Own.nil _ _, fresh_nil _ _ _, x1⟩
  | some b =>
    have hb := hlen b hx
    obtain ⟨R, hR⟩ : ∃ R, R = loadD d x := ⟨_, rfl⟩
    rw [← hR]
    have e : loadD d x = if (oneR b).2 = 0 then ((oneR b).1, 0) else ([], 3) := by unfold loadD; rw [hx]
    rw [e] at hR
    rw [hx, codeR_some, getD_some] at hcr
    clear hlen hx e
    obtain ⟨q, hq⟩ : ∃ q, q = oneR b := ⟨_, rfl⟩
    rw [← hq] at hR
    replace hq := Lib.hid hq
    obtain ⟨p, n⟩ := q
    have hR2 : Hid ((n = 0 ∧ R = (p, 0)) ∨ (n ≠ 0 ∧ R = ([], 3))) := Lib.hid (by
      by_cases hn : n = 0
      · exact .inl ⟨hn, by rw [hR, if_pos hn]⟩
      · exact .inr ⟨hn, by rw [hR, if_neg hn]⟩)
    clear hR
    go_enter Tryd.func11, Tryd.ntmps11
    go_wp2_with fail
    refine hcr.mono ?_
    rintro e w1 ⟨u, rfl, o1, f1, x1⟩
    have hc1 := rone_any o1.sl (by omega)
    rw [← hq.out] at hc1
    clear hcr
    go_wp2_with fail
    refine hc1.mono ?_
    rintro e w2 ⟨u2, rfl, o2, f2, x2⟩
    clear hc1
    rcases hR2.out with ⟨hn, hR3⟩ | ⟨hn, hR3⟩
    · subst hn
      subst hR3
      clear hR2 hq
      go_wp2_with fail
      go_ret2
      exact ⟨_, rfl, o2, f2.mono x1.size, ext_trans x1 x2⟩
    · have hb3 := n_ne0 hn
      subst hR3
      clear hR2 hq
      go_wp2_with fail
      go_ret2
      exact ⟨_, rfl, Own.nil _ _, fresh_nil _ _ _, ext_trans x1 x2⟩
end
end Go.Proofs.YtblfhonfjljndaaDoor
namespace Go.Proofs.YtblfhonfjljndaaDoor
open Go.RowKit Go.Maps Go.WideMaps
set_option maxRecDepth 100000

theorem each_app {F : Ds → List UInt8 → Ds × Nat} : ∀ {A : Tx} {d d' : Ds}, eachD F d A = (d', 0) → ∀ B, eachD F d (A ++ B) = eachD F d' B
  | [], d, d', h, B => by
    unfold eachD at h
    cases h
    rfl
  | x :: A, d, d', h, B => by
    by_cases hx : (F d x).2 = 0
    · rw [eachD_ok hx] at h
      rw [List.cons_append, eachD_ok hx]
      exact each_app h B
    · rw [eachD_err hx] at h
      rw [h] at hx
      exact absurd rfl hx
theorem goneN_split (L : Tx) (p : List UInt8) (stay : Tx) (k : Nat) : goneN L p stay = goneN (L.take k) p stay ++ goneN (L.drop k) p stay := by
  unfold goneN
  rw [← List.filter_append, List.take_append_drop]
section
variable {N : Nat → Prop} {w w' : World} {u y : Value} {d : Ds}
set_option maxHeartbeats 16000000 in
theorem rclear_any (h : Sole N w u d) (hN : ∀ k, N k → k < w.heap.size) (p : List UInt8) {stay : Tx} (hy : Ts w N y stay) (hl : stay.length ≤ 1000000) (hp : p.length ≤ 1000000) (hnl : ∀ x ∈ nms d.L, x.length ≤ 1000000) :
    Calls Tryd.prog 14 #[u, sv p, y] w fun e w' => e = .returned (ev (clearD d p stay).2) ∧ Sole N w' u (clearD d p stay).1 ∧ Mod (fun k => ¬ N k) w w' := by
  have hpv : ∃ bd, u = pv bd := by obtain ⟨T, ⟨bd, _, _, e, _⟩, _⟩ := h; exact ⟨bd, e⟩
  obtain ⟨bd, rfl⟩ := hpv
  have hcl := (show _ from by obtain ⟨T, h1, _⟩ := h; exact rlist_any h1 : Calls Tryd.prog 21 #[pv bd] w fun e w' => ∃ u, e = .returned u ∧ OwnT w' u (nms d.L) ∧ Fresh w.heap.size u ∧ Ext w w')
  obtain ⟨R, hR⟩ : ∃ R, R = clearD d p stay := ⟨_, rfl⟩
  rw [← hR]
  unfold clearD at hR
  replace hR := Lib.hid hR
  generalize nms d.L = L at *
  have hsp := sv_size p
  obtain ⟨Ay, cy, rfl, g1, g2, g3, g4⟩ := hy.open_
  clear hy
  go_enter Tryd.func14, Tryd.ntmps14
  go_wp2_with fail
  refine hcl.mono ?_
  rintro e w1 ⟨u1, rfl, o1, f1, x1⟩
  clear hcl
  obtain ⟨N1, hN1d⟩ : ∃ N1 : Nat → Prop, N1 = fun k => N k ∨ own u1 k := ⟨_, rfl⟩
  have h1 : Sole N1 w1 (pv bd) d := by
    rw [hN1d]
    exact (h.more (N' := fun k => N k ∨ own u1 k) fun k hk => hk.imp id fun h => f1 k h).ext x1
  have hN1 : ∀ k, N1 k → k < w1.heap.size := by
    rw [hN1d]
    rintro k (h | h)
    · exact Nat.lt_of_lt_of_le (hN k h) x1.size
    · exact o1.lt h
  have s1 : ∀ k, N k → N1 k := by rw [hN1d]; exact fun k h => .inl h
  have so : ∀ k, own u1 k → N1 k := by rw [hN1d]; exact fun k h => .inr h
  have m1 : Mod (fun k => ¬ N k) w w1 := x1.mono fun _ _ h => h.elim
  obtain ⟨A, c, rfl, h2, h3, h4, h5⟩ := (show Ts w1 (own u1) u1 L from o1.sl).open_
  have cL : ∀ {wx : World}, Mod (fun k => ¬ N1 k) w1 wx → Cells wx (own (Value.slice A L.length c)) A (L.map sv) := fun m => h5.mod m fun k _ hk hn => hn (so k hk)
  have cS : ∀ {wx : World}, Mod (fun k => ¬ N1 k) w1 wx → Cells wx N Ay (stay.map sv) := fun m => (g4.mod x1 fun _ _ _ h => h).mod m fun k _ hk hn => hn (s1 k hk)
  clear h o1 f1 hN h5 g4 x1
  go_wp2_with fail
  go_loopw [8] (fun i wr => ∃ (k : Nat) (dk : Ds), k ≤ L.length ∧ i = .int .i64 k ∧ Hid (eachD removeD d (goneN (L.take k) p stay) = (dk, 0)) ∧ Sole N1 wr (pv bd) dk ∧ Mod (fun k => ¬ N1 k) w1 wr) (fun i _ => L.length - (intOf i).toNat)
  case atStart => exact ⟨0, d, Nat.zero_le _, rfl, Lib.hid (by simp [goneN, eachD]), h1, Mod.refl _ _⟩
  case round =>
    clear h1
    obtain ⟨k, dk, hk, rfl, he, hs, hm⟩ := hrel
    by_cases hlt : k < L.length
    case neg =>
      have hbl : decide ((k : Int) < (L.length : Int)) = false := dfalse (by omega)
      have he2 := he.out
      rw [List.take_of_length_le (by omega)] at he2
      have hR2 := hR.out
      rw [he2] at hR2
      subst hR2
      clear hR he he2
      go_wp2_with fail
      go_ret
      exact ⟨rfl, hs.more fun k hk => .inl (s1 k hk), m1.then_ hm fun k _ hk hn => hk (s1 k hn)⟩
    have hbl : decide ((k : Int) < (L.length : Int)) = true := dtrue (by omega)
    obtain ⟨ad, hA, hS, c0⟩ := (cL hm).at_ hlt
    subst hA
    have hi0 : (0 : Int) ≤ (k : Int) := by omega
    have hi1 : (k : Int) < (L.length : Int) := by omega
    have hsn := goneN_snoc (p := p) (stay := stay) hlt
    have hsz : ∀ {wx : World}, Mod (fun k => ¬ N1 k) w1 wx → wx.cell? (ad.add k) = some (sv L[k]) := fun m => by
      obtain ⟨ad', hA', _, c'⟩ := (cL m).at_ hlt
      cases hA'
      exact c'
    have hrest : eachD removeD d (goneN L p stay) = eachD removeD dk (goneN (L.drop k) p stay) := by
      rw [goneN_split L p stay k]
      exact each_app he.out _
    have hdr : L.drop k = L[k] :: L.drop (k + 1) := List.drop_eq_getElem_cons hlt
    rw [hdr] at hrest
    generalize hgk1 : goneN (L.take (k + 1)) p stay = gk1 at *
    generalize hgk : goneN (L.take k) p stay = gk at *
    have hxl := hnl _ (List.getElem_mem hlt)
    generalize L[k] = x at *
    have hsx := sv_size x
    have hkeep : (preB x p && !decide (x ∈ stay)) = false → eachD removeD d gk1 = (dk, 0) := fun hq => by
      rw [if_neg (by rw [hq]; decide)] at hsn
      rw [hsn]
      exact he.out
    have hgone : (preB x p && !decide (x ∈ stay)) = true → (∀ d2, removeD dk x = (d2, 0) → eachD removeD d gk1 = (d2, 0)) ∧ ((removeD dk x).2 ≠ 0 → R = removeD dk x) := fun hq => by
      rw [if_pos hq] at hsn
      refine ⟨fun d2 h2 => ?_, fun hne => ?_⟩
      · rw [hsn, each_app he.out, each_one, h2]
      · rw [hR.out, hrest]
        unfold goneN
        rw [List.filter_cons, if_pos hq]
        exact eachD_err hne
    clear hsn hrest hdr
    replace hgk := Lib.hid hgk
    replace hgk1 := Lib.hid hgk1
    replace hkeep := Lib.hid hkeep
    replace hgone := Lib.hid hgone
    by_cases hpl : x.length < p.length
    · have hb : decide ((x.length : Int) < (p.length : Int)) = true := dtrue (by omega)
      have hq : preB x p = false := by unfold preB; rw [decide_eq_false (by omega), Bool.false_and]
      have he2 := Lib.hid (hkeep.out (by rw [hq, Bool.false_and]))
      clear hkeep hgone hq
      go_wp2_with fail
      exact ⟨⟨k + 1, dk, by omega, by go_num, by rw [hgk1.out]; exact he2, hs, hm⟩, by simp [intOf] <;> omega⟩
    have hb : decide ((x.length : Int) < (p.length : Int)) = false := dfalse (by omega)
    have hxe := ext_head x p.length
    have hj0 : (0 : Int) ≤ (p.length : Int) := by omega
    have hj1 : (p.length : Int) ≤ (x.length : Int) := by omega
    obtain ⟨z, hz⟩ : ∃ z, z = x.take p.length := ⟨_, rfl⟩
    rw [← hz] at hxe
    have hqz : preB x p = (z == p) := by unfold preB; rw [decide_eq_true (by omega), Bool.true_and, hz]
    by_cases hzp : z = p
    case neg =>
      have hb2 : (z == p) = false := by simpa using hzp
      have hq : preB x p = false := by rw [hqz]; simpa using hzp
      have he2 := Lib.hid (hkeep.out (by rw [hq, Bool.false_and]))
      clear hkeep hgone hq hqz hz
      go_wp2_with fail
      exact ⟨⟨k + 1, dk, by omega, by go_num, by rw [hgk1.out]; exact he2, hs, hm⟩, by simp [intOf] <;> omega⟩
    subst hzp
    have hq : preB x z = true := by rw [hqz]; simp
    rw [hq] at hkeep hgone
    clear hqz hz
    go_wp2_with fail
    obtain ⟨w2, hw2⟩ : ∃ w2, w2 = wr := ⟨_, rfl⟩
    subst hw2
    go_loopw [9, 10] (fun q j wq => ∃ m : Nat, m ≤ stay.length ∧ j = .int .i64 m ∧ q = .bool (decide (x ∈ stay.take m)) ∧ Ext w2 wq) (fun _ j _ => stay.length - (intOf j).toNat)
    case atStart => exact ⟨0, Nat.zero_le _, rfl, by simp, Mod.refl _ _⟩
    case round =>
      obtain ⟨m, hmm, rfl, rfl, hxq⟩ := hrel
      have hmq : Mod (fun k => ¬ N1 k) w1 wr := hm.then_ hxq fun _ _ h => h.elim
      have hsq := hs.ext hxq
      by_cases hltm : m < stay.length
      case neg =>
        have hblm : decide ((m : Int) < (stay.length : Int)) = false := dfalse (by omega)
        rw [List.take_of_length_le (by omega)]
        have cx := hsz hmq
        by_cases hin : x ∈ stay
        · rw [decide_eq_true hin] at hkeep ⊢
          have he2 := Lib.hid (hkeep.out rfl)
          clear hkeep hgone
          go_wp2_with fail
          exact ⟨⟨k + 1, dk, by omega, by go_num, by rw [hgk1.out]; exact he2, hsq, hmq⟩, by simp [intOf] <;> omega⟩
        rw [decide_eq_false hin] at hgone ⊢
        obtain ⟨q1, q2⟩ := hgone.out rfl
        replace q1 := Lib.hid q1
        replace q2 := Lib.hid q2
        have hc2 := hsq.call (fun k hk => Nat.lt_of_lt_of_le (hN1 k hk) hmq.size) fun T hd hT => rremove_any hd x
        clear hkeep hgone
        generalize hr : removeD dk x = r at *
        replace hr := Lib.hid hr
        obtain ⟨d2, n2⟩ := r
        simp only at hc2
        go_wp2_with fail
        refine hc2.mono ?_
        rintro e w4 ⟨rfl, h4, m4⟩
        have m14 := hmq.then_ m4 fun _ _ h => h
        clear hc2
        by_cases hn : n2 = 0
        case neg =>
          have hb3 := n_ne0 hn
          have hR2 := q2.out hn
          subst hR2
          clear hR q1 q2
          go_wp2_with fail
          go_ret
          exact ⟨rfl, h4.more fun k hk => .inl (s1 k hk), m1.then_ m14 fun k _ hk hn => hk (s1 k hn)⟩
        subst hn
        have he2 := Lib.hid (q1.out d2 rfl)
        clear q1 q2
        go_wp2_with fail
        exact ⟨⟨k + 1, d2, by omega, by go_num, by rw [hgk1.out]; exact he2, h4, m14⟩, by simp [intOf] <;> omega⟩
      have hblm : decide ((m : Int) < (stay.length : Int)) = true := dtrue (by omega)
      have hm0 : (0 : Int) ≤ (m : Int) := by omega
      have hm1 : (m : Int) < (stay.length : Int) := by omega
      obtain ⟨asd, hAs, -, cs0⟩ := (cS hmq).at_ hltm
      subst hAs
      have cx := hsz hmq
      have hstep : decide (x ∈ stay.take (m + 1)) = (decide (x ∈ stay.take m) || (stay[m] == x)) := by
        rw [List.take_succ_eq_append_getElem hltm, Bool.eq_iff_iff, decide_eq_true_iff, List.mem_append, List.mem_singleton, Bool.or_eq_true, decide_eq_true_iff, beq_iff_eq]
        exact or_congr Iff.rfl ⟨Eq.symm, Eq.symm⟩
      have hdw : ∀ nn, Ext w2 (wr.drewN nn) := fun nn => hxq.drewN nn
      generalize hq0 : decide (x ∈ stay.take m) = q0 at *
      generalize hq1 : decide (x ∈ stay.take (m + 1)) = q1 at *
      generalize stay[m] = y at *
      clear hq0
      replace hq1 := Lib.hid hq1
      replace hstep := Lib.hid hstep
      cases q0
      all_goals
        go_wp2_with fail
        go_quiet (fail)
        go_wp2_with fail
        refine ⟨⟨m + 1, by omega, by go_num, ?_, hdw _⟩, by simp [intOf] <;> omega⟩
        rw [hq1.out, hstep.out]
        simp
end
end Go.Proofs.YtblfhonfjljndaaDoor
namespace Go.Proofs.YtblfhonfjljndaaDoor
open Go.RowKit Go.Maps Go.WideMaps Go.WideShapes Go.ChangeShapes
set_option maxRecDepth 100000

/-- A step: what it is, its number, its name, its rows, what is to stay. -/
structure Sk where
  kind : Int
  n : Int
  x : List UInt8
  a : List UInt8
  b : List UInt8
  s : Tx
  va : Value
  vb : Value
  vs : Value
instance : Inhabited Sk := ⟨⟨0, 0, [], [], [], [], .nilFunc, .nilFunc, .nilFunc⟩⟩
abbrev skl (c : Sk) : List Value := [.int .i64 c.kind, .int .i64 c.n, sv c.x, c.va, c.vb, c.vs]
abbrev skar (c : Sk) : Array Value := #[.int .i64 c.kind, .int .i64 c.n, sv c.x, c.va, c.vb, c.vs]
theorem skl_len (c : Sk) : (skl c).length = 6 := rfl
def SkOk (w : World) (c : Sk) : Prop := (Bs w (fun _ => True) c.va c.a ∧ Bs w (fun _ => True) c.vb c.b ∧ Ts w (fun _ => True) c.vs c.s) ∧ (-9223372036854775808 ≤ c.n ∧ c.n ≤ 9223372036854775807) ∧ c.x.length ≤ 140737488351232 ∧ c.a.length ≤ 140737488351232 ∧ c.b.length ≤ 140737488351232 ∧ c.s.length ≤ 140737488351232 ∧ ∀ y ∈ c.s, y.length ≤ 140737488351232
abbrev Sks (w : World) (S : Nat → Prop) (v : Value) (L : List Sk) : Prop := Rc skl 6 w S v L
theorem Sks.at_ {w : World} {S : Nat → Prop} {A : Option Addr} {L : List Sk} (h : RcAt skl 6 w S A L) {i : Nat} (hi : i < L.length) :
    ∃ ad, A = some ad ∧ S ad.block ∧ w.cell? (ad.add (i * 6)) = some (.int .i64 L[i].kind) ∧ w.cell? ⟨(ad.add (i * 6)).block, (ad.add (i * 6)).off + 1, none⟩ = some (.int .i64 L[i].n) ∧ w.cell? ⟨(ad.add (i * 6)).block, (ad.add (i * 6)).off + 2, none⟩ = some (sv L[i].x) ∧
      w.cell? ⟨(ad.add (i * 6)).block, (ad.add (i * 6)).off + 3, none⟩ = some L[i].va ∧ w.cell? ⟨(ad.add (i * 6)).block, (ad.add (i * 6)).off + 4, none⟩ = some L[i].vb ∧ w.cell? ⟨(ad.add (i * 6)).block, (ad.add (i * 6)).off + 5, none⟩ = some L[i].vs := by
  obtain ⟨ad, hA, hS, h0⟩ := h i 0 _ hi (by omega) rfl
  obtain ⟨ad1, hA1, _, h1⟩ := h i 1 _ hi (by omega) rfl
  obtain ⟨ad2, hA2, _, h2⟩ := h i 2 _ hi (by omega) rfl
  obtain ⟨ad3, hA3, _, h3⟩ := h i 3 _ hi (by omega) rfl
  obtain ⟨ad4, hA4, _, h4⟩ := h i 4 _ hi (by omega) rfl
  obtain ⟨ad5, hA5, _, h5⟩ := h i 5 _ hi (by omega) rfl
  rw [hA] at hA1 hA2 hA3 hA4 hA5
  cases hA1; cases hA2; cases hA3; cases hA4; cases hA5
  rw [add_next _ _ _ (by omega)] at h1 h2 h3 h4 h5
  exact ⟨ad, hA, hS, h0, h1, h2, h3, h4, h5⟩

section
variable {H : Type} {enc : TypeId × Value → H} {W : World} {base : Nat} {spare : Nat → Bool} {held : Bool} {v : Value} {d : DataW H} {p : List MemPlace}
theorem light_all {P : Program} {t : TypeId} (h : Light P t d) : (DataW.weightsEach P [t] [d]).all (· ≤ reachBytes) = true := by
  rw [List.all_eq_true]
  intro q hq
  have : q ∈ d.weights P t := by simpa [DataW.weightsEach] using hq
  have := h q this
  exact decide_eq_true (by simpa [reachBytes] using this)
theorem strs_light {fuel : Nat} {x : Value} (h : DataW.trod enc Tryd.prog W base spare held fuel 33 [x] = some (d, p)) (hl : Light Tryd.prog 33 d) :
    ∃ L, Ts W (fun _ => True) x L ∧ L.length ≤ 140737488351232 ∧ ∀ l ∈ L, l.length ≤ 140737488351232 := by
  have hsl := slice_val Tryd.underlying33 h
  have hx1 : x.cells.toList = [x] := by obtain ⟨a, b, c, e⟩ := hsl; rw [e]; rfl
  obtain ⟨L, h1, h2, h3⟩ := strs_in_sized (ts := [33]) (ds := [d]) (j := 0) (v := x) (d := d) (p := p) Tryd.underlying33 Tryd.underlying9 (by kernel_rfl) (by kernel_rfl) hsl ⟨fuel, by rw [hx1]; exact h⟩ (light_all hl) rfl rfl
  exact ⟨L, h1, by omega, h2⟩
theorem stepk_each (cs : List Value) (x : DataW H × List MemPlace) (n : Nat) (h : DataW.trod enc Tryd.prog W base spare held n 35 cs = some x) (hl : Light Tryd.prog 35 x.1) :
    ∃ c : Sk, cs = skl c ∧ SkOk W c := by
  obtain ⟨xs, m, _, rfl, hlen, hxl, hfi⟩ := DataW.trod_struct Tryd.underlying35 h
  have hc : Tryd.prog.cellsOf 35 = 6 := by kernel_rfl
  match xs, hxl, cs, hlen.trans hc with
  | [y0, y1, y2, y3, y4, y5], _, [v0, v1, v2, v3, v4, v5], _ =>
    have k1 : Tryd.prog.cellsOf 3 = 1 := by kernel_rfl
    have k4 : Tryd.prog.cellsOf 9 = 1 := by kernel_rfl
    have k5 : Tryd.prog.cellsOf 32 = 1 := by kernel_rfl
    have k6 : Tryd.prog.cellsOf 33 = 1 := by kernel_rfl
    have g0 : DataW.trod enc Tryd.prog W base spare held m 3 (([v0, v1, v2, v3, v4, v5].drop 0).take (Tryd.prog.cellsOf 3)) = some y0 := hfi 0 _ rfl
    rw [k1] at g0
    replace g0 : DataW.trod enc Tryd.prog W base spare held m 3 [v0] = some y0 := g0
    have g1 : DataW.trod enc Tryd.prog W base spare held m 3 (([v0, v1, v2, v3, v4, v5].drop 1).take (Tryd.prog.cellsOf 3)) = some y1 := hfi 1 _ rfl
    rw [k1] at g1
    replace g1 : DataW.trod enc Tryd.prog W base spare held m 3 [v1] = some y1 := g1
    have g2 : DataW.trod enc Tryd.prog W base spare held m 9 (([v0, v1, v2, v3, v4, v5].drop 2).take (Tryd.prog.cellsOf 9)) = some y2 := hfi 2 _ rfl
    rw [k4] at g2
    replace g2 : DataW.trod enc Tryd.prog W base spare held m 9 [v2] = some y2 := g2
    have g3 : DataW.trod enc Tryd.prog W base spare held m 32 (([v0, v1, v2, v3, v4, v5].drop 3).take (Tryd.prog.cellsOf 32)) = some y3 := hfi 3 _ rfl
    rw [k5] at g3
    replace g3 : DataW.trod enc Tryd.prog W base spare held m 32 [v3] = some y3 := g3
    have g4 : DataW.trod enc Tryd.prog W base spare held m 32 (([v0, v1, v2, v3, v4, v5].drop 4).take (Tryd.prog.cellsOf 32)) = some y4 := hfi 4 _ rfl
    rw [k5] at g4
    replace g4 : DataW.trod enc Tryd.prog W base spare held m 32 [v4] = some y4 := g4
    have g5 : DataW.trod enc Tryd.prog W base spare held m 33 (([v0, v1, v2, v3, v4, v5].drop 5).take (Tryd.prog.cellsOf 33)) = some y5 := hfi 5 _ rfl
    rw [k6] at g5
    replace g5 : DataW.trod enc Tryd.prog W base spare held m 33 [v5] = some y5 := g5
    obtain ⟨n0, q0, _, _⟩ := DataW.trod_int Tryd.underlying3 g0
    obtain ⟨n1, q1, _, w1⟩ := DataW.trod_int Tryd.underlying3 g1
    obtain ⟨x2, q2, z2, _⟩ := DataW.trod_string Tryd.underlying9 g2
    have l2 := Light.part (j := 2) Tryd.underlying35 hl rfl rfl
    have l3 := Light.part (j := 3) Tryd.underlying35 hl rfl rfl
    have l4 := Light.part (j := 4) Tryd.underlying35 hl rfl rfl
    have l5 := Light.part (j := 5) Tryd.underlying35 hl rfl rfl
    rw [z2] at l2
    obtain ⟨la, ha, hza⟩ := bs_light (x := v3) Tryd.underlying32 Tryd.underlying5 (by kernel_rfl) (by kernel_rfl) (d := y3.1) (p := y3.2) g3 l3
    obtain ⟨lb, hb, hzb⟩ := bs_light (x := v4) Tryd.underlying32 Tryd.underlying5 (by kernel_rfl) (by kernel_rfl) (d := y4.1) (p := y4.2) g4 l4
    obtain ⟨ls, hs, hzs, hzt⟩ := strs_light (x := v5) (d := y5.1) (p := y5.2) g5 l5
    injection q0 with q0
    injection q1 with q1
    injection q2 with q2
    exact ⟨⟨n0, n1, x2.data.toList, la, lb, ls, v3, v4, v5⟩, by rw [q0, q1, q2, sv_of x2], ⟨ha, hb, hs⟩, by simpa [Lit.wf, IntKind.bits, IntKind.signed, IntKind.min, IntKind.max] using w1, l2.str, hza, hzb, hzs, hzt⟩
theorem stepsk_in (h : DataW.Trod enc Tryd.prog W base spare held 22 v d p) (hv : ∃ a len cap, v = .slice a len cap) (hl : Light Tryd.prog 22 d) :
    ∃ C, Sks W (fun _ => True) v C ∧ (∀ c ∈ C, SkOk W c) ∧ C.length ≤ 140737488351232 := by
  obtain ⟨C, h1, h2, h3⟩ := recs_in skl skl_len (fun c => SkOk W c) Tryd.underlying22 (by kernel_rfl) (bts := 104) (by kernel_rfl) stepk_each hv h hl
  exact ⟨C, h1, h2, by omega⟩
end
end Go.Proofs.YtblfhonfjljndaaDoor
namespace Go.Proofs.YtblfhonfjljndaaDoor
open Go.RowKit Go.Maps Go.WideMaps
set_option maxRecDepth 100000

/-- A step of no more than a machine's bytes. -/
def SkSm (c : Sk) : Prop := c.a.length ≤ 1048576 ∧ c.b.length ≤ 1048576 ∧ c.x.length ≤ 1048576 ∧ c.s.length ≤ 1048576 ∧ ∀ y ∈ c.s, y.length ≤ 1048576
def wT (L : Tx) : Nat := (L.map fun x => 2 + x.length).sum
theorem wT_snoc (L : Tx) {k : Nat} (h : k < L.length) : wT (L.take (k + 1)) = wT (L.take k) + (2 + L[k].length) := by
  unfold wT
  rw [List.take_succ_eq_append_getElem h, List.map_append, List.sum_append]
  simp only [List.map_cons, List.map_nil, List.sum_cons, List.sum_nil, Nat.add_zero]
theorem wT_le {L : Tx} {M : Nat} (h : ∀ y ∈ L, y.length + 2 ≤ M) (k : Nat) : wT (L.take k) ≤ k * M := by
  induction k with
  | zero => simp [wT]
  | succ k ih =>
    rw [Nat.succ_mul]
    by_cases hk : k < L.length
    · have := h _ (List.getElem_mem hk)
      rw [wT_snoc L hk]
      omega
    · rw [List.take_of_length_le (by omega)] at ih ⊢
      omega
def wKc (c : Sk) : Nat := 5 + c.a.length + c.b.length + c.x.length + wT c.s
def wK (L : List Sk) : Nat := (L.map wKc).sum
theorem wK_snoc (L : List Sk) {k : Nat} (h : k < L.length) : wK (L.take (k + 1)) = wK (L.take k) + wKc L[k] := by
  unfold wK
  rw [List.take_succ_eq_append_getElem h, List.map_append, List.sum_append]
  simp only [List.map_cons, List.map_nil, List.sum_cons, List.sum_nil, Nat.add_zero]
theorem wK_mem {L : List Sk} {a : Sk} (h : a ∈ L) : wKc a ≤ wK L := by
  induction L with
  | nil => cases h
  | cons b L ih =>
    have e : wK (b :: L) = wKc b + wK L := by simp [wK]
    rw [e]
    rcases List.mem_cons.1 h with rfl | h
    · omega
    · have := ih h; omega
theorem wT_len (L : Tx) : 2 * L.length ≤ wT L := by
  induction L with
  | nil => simp [wT]
  | cons x L ih => simp [wT] at ih ⊢; omega
theorem wK_few {L : List Sk} (h : wK (L.take 80) ≤ 5000) {k : Nat} (hk : k < L.length) (h2 : k < 80) : wKc L[k] ≤ 5000 := by
  have hm : L[k] ∈ L.take 80 := by
    rw [List.mem_take_iff_getElem]
    exact ⟨k, by omega, rfl⟩
  have := wK_mem hm
  omega
set_option maxHeartbeats 8000000 in
theorem heavy4_any {w : World} {S : Nat → Prop} {v : Value} {L : List Sk} (h : Sks w S v L) (hok : ∀ c ∈ L, SkOk w c ∧ SkSm c) (hl : L.length ≤ 140737488351232) :
    Calls Tryd.prog 4 #[v] w fun e w' => ∃ q : Bool, e = .returned (.bool q) ∧ (q = false → wK (L.take 80) ≤ 5000) ∧ Ext w w' := by
  obtain ⟨A, c, rfl, h1, h2, h3, h4⟩ := h.open_ skl_len
  go_enter Tryd.func4, Tryd.ntmps4
  go_wp2_with fail
  go_loopw [3, 4] (fun n i wr => ∃ k : Nat, k ≤ L.length ∧ i = .int .i64 k ∧ n = .int .i64 (wK (L.take k) : Nat) ∧ Hid (wK (L.take k) ≤ 5000 ∧ k ≤ 80) ∧ Ext w wr) (fun _ i _ => L.length - (intOf i).toNat)
  case atStart => exact ⟨0, by omega, rfl, rfl, Lib.hid (by simp [wK]), Mod.refl _ _⟩
  case round =>
    obtain ⟨k, hk, rfl, rfl, hw0, hxr⟩ := hrel
    by_cases hlt : k < L.length
    · have hbl : decide ((k : Int) < (L.length : Int)) = true := dtrue (by omega)
      by_cases hk3 : k < 80
      case neg =>
        have hbk : decide ((k : Int) < 80) = false := dfalse (by omega)
        have hw2 : wK (L.take 80) ≤ 5000 := by
          have := hw0.out
          obtain rfl : k = 80 := by omega
          exact this.1
        replace hw2 := Lib.hid hw2
        go_wp2_with fail
        go_ret
        exact ⟨false, rfl, fun _ => hw2.out, hxr⟩
      have hbk : decide ((k : Int) < 80) = true := dtrue (by omega)
      obtain ⟨ad, hA, hS, c0, c1, c2, c3, c4, c5⟩ := Sks.at_ (h4.ext hxr) hlt
      subst hA
      obtain ⟨⟨⟨ka, kb, ks⟩, _⟩, sa, sb, sx, ss, sy⟩ := hok _ (List.getElem_mem hlt)
      obtain ⟨Aa, ca, hva, _⟩ := ka.open_
      obtain ⟨Ab, cb, hvb, _⟩ := kb.open_
      obtain ⟨As, cs, hvs, _, _, _, g4⟩ := ks.open_
      rw [hva] at c3
      rw [hvb] at c4
      rw [hvs] at c5
      have c5x : ∀ {wx : World}, Ext wr wx → wx.cell? ⟨(ad.add (k * 6)).block, (ad.add (k * 6)).off + 5, none⟩ = some (.slice As L[k].s.length cs) := fun q => by
        obtain ⟨ad', hA', _, _, _, _, _, _, c⟩ := Sks.at_ (h4.ext (ext_trans hxr q)) hlt
        cases hA'
        rw [hvs] at c
        exact c
      have hsn := wK_snoc L hlt
      obtain ⟨hw, hk2⟩ := hw0.out
      have hi0 : (0 : Int) ≤ (k : Int) := by omega
      have hi1 : (k : Int) < (L.length : Int) := by omega
      clear hva hvb hvs ka kb ks
      generalize L[k] = x at *
      generalize wK (L.take k) = n at *
      have hz1 := sv_size x.x
      have hdw : ∀ m, Ext wr (wr.drewN m) := fun m => (Mod.refl _ _).drewN m
      have hadd0 : IntKind.i64.wrap ((n : Int) + 5) = ((n + 5 : Nat) : Int) := by rw [IntKind.wrap_i64]; omega
      have hadd : IntKind.i64.wrap (((n + 5 : Nat) : Int) + (x.a.length : Int)) = ((n + 5 + x.a.length : Nat) : Int) := by rw [IntKind.wrap_i64]; omega
      have hadd2 : IntKind.i64.wrap (((n + 5 + x.a.length : Nat) : Int) + (x.b.length : Int)) = ((n + 5 + x.a.length + x.b.length : Nat) : Int) := by rw [IntKind.wrap_i64]; omega
      have hadd3 : IntKind.i64.wrap (((n + 5 + x.a.length + x.b.length : Nat) : Int) + (x.x.length : Int)) = ((n + 5 + x.a.length + x.b.length + x.x.length : Nat) : Int) := by rw [IntKind.wrap_i64]; omega
      obtain ⟨u, hu⟩ : ∃ u : Nat, u = n + 5 + x.a.length + x.b.length + x.x.length := ⟨_, rfl⟩
      have hub : u ≤ 4000000 := by omega
      have hn2 : wKc x + n = u + wT x.s := by unfold wKc; omega
      rw [← hu] at hadd3
      replace hu := Lib.hid hu
      replace hsn := Lib.hid hsn
      replace hn2 := Lib.hid hn2
      go_wp2_with fail
      go_quiet (fail)
      go_wp2_with fail
      obtain ⟨w2, hw2⟩ : ∃ w2, w2 = wr := ⟨_, rfl⟩
      subst hw2
      go_loopw [3, 5] (fun nn j wq => ∃ m : Nat, m ≤ x.s.length ∧ j = .int .i64 m ∧ nn = .int .i64 ((u + wT (x.s.take m) : Nat) : Int) ∧ Ext w2 wq) (fun _ j _ => x.s.length - (intOf j).toNat)
      case atStart => exact ⟨0, Nat.zero_le _, rfl, by rw [hu.out]; simp [wT], hdw _⟩
      case round =>
        obtain ⟨m, hmm, rfl, rfl, hxq⟩ := hrel
        have c5 := c5x hxq
        have hrl := wT_le (M := 1048578) (fun y hy => by have := sy y hy; omega) m
        have hxw := ext_trans hxr hxq
        by_cases hltm : m < x.s.length
        · have hblm : decide ((m : Int) < (x.s.length : Int)) = true := dtrue (by omega)
          have hm0 : (0 : Int) ≤ (m : Int) := by omega
          have hm1 : (m : Int) < (x.s.length : Int) := by omega
          obtain ⟨asd, hAs, -, cs0⟩ := (Cells.mod g4 hxw fun _ _ _ h => h).at_ hltm
          subst hAs
          have hst := wT_snoc x.s hltm
          have hyl := sy _ (List.getElem_mem hltm)
          generalize x.s[m] = y at *
          have hz3 := sv_size y
          obtain ⟨r, hr⟩ : ∃ r : Nat, r = u + wT (x.s.take m) := ⟨_, rfl⟩
          have hr2 : u + wT (x.s.take (m + 1)) = r + (2 + y.length) := by omega
          have hrb : r ≤ 4000000 + 1048576 * 1048578 := by
            have : m * 1048578 ≤ 1048576 * 1048578 := Nat.mul_le_mul_right _ (by omega)
            omega
          rw [← hr]
          replace hr2 := Lib.hid hr2
          clear hr hrl hst
          go_wp2_with fail
          exact ⟨⟨m + 1, by omega, by go_num, by rw [hr2.out]; go_num, hxq⟩, by simp [intOf] <;> omega⟩
        · have hblm : decide ((m : Int) < (x.s.length : Int)) = false := dfalse (by omega)
          rw [List.take_of_length_le (by omega)]
          obtain ⟨r, hr⟩ : ∃ r : Nat, r = u + wT x.s := ⟨_, rfl⟩
          have hr2 : wKc x + n = r := by rw [hr]; exact hn2.out
          rw [← hr]
          replace hr2 := Lib.hid hr2
          clear hr hrl
          by_cases hgt : 5000 < r
          · have hbg : decide ((5000 : Int) < (r : Int)) = true := dtrue (by omega)
            go_wp2_with fail
            go_ret
            exact ⟨true, rfl, by simp, hxw⟩
          · have hbg : decide ((5000 : Int) < (r : Int)) = false := dfalse (by omega)
            go_wp2_with fail
            exact ⟨⟨k + 1, by omega, by go_num, by rw [hsn.out, ← hr2.out]; congr 1; omega, Lib.hid (by have := hr2.out; rw [hsn.out]; omega), hxw⟩, by simp [intOf] <;> omega⟩
    · have hbl : decide ((k : Int) < (L.length : Int)) = false := dfalse (by omega)
      have hw2 : wK (L.take 80) ≤ 5000 := by
        have := hw0.out
        rw [List.take_of_length_le (by omega)] at this ⊢
        exact this.1
      replace hw2 := Lib.hid hw2
      go_wp2_with fail
      go_ret
      exact ⟨false, rfl, fun _ => hw2.out, hxr⟩
end Go.Proofs.YtblfhonfjljndaaDoor
