/- disk: steps of a script; two disks side by side. -/
import Derived.Test.YtnmfkfjeihjkeaaRdW
import Derived.Test.YtnmfkfjeihjkeaaRwIn
import Derived.Test.YtnmfkfjeihjkeaaDkY
namespace Go.Proofs.Ytnmfkfjeihjkeaa
open Go.RowKit Go.Maps Go.WideMaps Go.WideShapes Go.ChangeShapes
set_option maxRecDepth 100000

/-- A step: what it is, its number, its names, its bytes. -/
structure St where
  kind : Int
  n : Int
  a : List UInt8
  t : List UInt8
  b : List UInt8
  v : Value
instance : Inhabited St := ⟨⟨0, 0, [], [], [], .nilFunc⟩⟩
abbrev stl (x : St) : List Value := [.int .i64 x.kind, .int .i64 x.n, sv x.a, sv x.t, x.v]
abbrev star (x : St) : Array Value := #[.int .i64 x.kind, .int .i64 x.n, sv x.a, sv x.t, x.v]
theorem stl_len (x : St) : (stl x).length = 5 := rfl
def StOk (w : World) (x : St) : Prop := Bs w (fun _ => True) x.v x.b ∧ (-9223372036854775808 ≤ x.n ∧ x.n ≤ 9223372036854775807) ∧ x.a.length ≤ 140737488351232 ∧ x.t.length ≤ 140737488351232 ∧ x.b.length ≤ 140737488351232
abbrev Sts (w : World) (S : Nat → Prop) (v : Value) (L : List St) : Prop := Rc stl 5 w S v L
theorem Sts.at_ {w : World} {S : Nat → Prop} {A : Option Addr} {L : List St} (h : RcAt stl 5 w S A L) {i : Nat} (hi : i < L.length) :
    ∃ ad, A = some ad ∧ S ad.block ∧ w.cell? (ad.add (i * 5)) = some (.int .i64 L[i].kind) ∧ w.cell? ⟨(ad.add (i * 5)).block, (ad.add (i * 5)).off + 1, none⟩ = some (.int .i64 L[i].n) ∧ w.cell? ⟨(ad.add (i * 5)).block, (ad.add (i * 5)).off + 2, none⟩ = some (sv L[i].a) ∧
      w.cell? ⟨(ad.add (i * 5)).block, (ad.add (i * 5)).off + 3, none⟩ = some (sv L[i].t) ∧ w.cell? ⟨(ad.add (i * 5)).block, (ad.add (i * 5)).off + 4, none⟩ = some L[i].v := by
  obtain ⟨ad, hA, hS, h0⟩ := h i 0 _ hi (by omega) rfl
  obtain ⟨ad1, hA1, _, h1⟩ := h i 1 _ hi (by omega) rfl
  obtain ⟨ad2, hA2, _, h2⟩ := h i 2 _ hi (by omega) rfl
  obtain ⟨ad3, hA3, _, h3⟩ := h i 3 _ hi (by omega) rfl
  obtain ⟨ad4, hA4, _, h4⟩ := h i 4 _ hi (by omega) rfl
  rw [hA] at hA1 hA2 hA3 hA4
  cases hA1; cases hA2; cases hA3; cases hA4
  rw [add_next _ _ _ (by omega)] at h1 h2 h3 h4
  exact ⟨ad, hA, hS, h0, h1, h2, h3, h4⟩

section
variable {H : Type} {enc : TypeId × Value → H} {W : World} {base : Nat} {spare : Nat → Bool} {held : Bool} {v : Value} {d : DataW H} {p : List MemPlace}
theorem step_each (cs : List Value) (x : DataW H × List MemPlace) (n : Nat) (h : DataW.trod enc Try.prog W base spare held n 34 cs = some x) (hl : Light Try.prog 34 x.1) :
    ∃ c : St, cs = stl c ∧ StOk W c := by
  obtain ⟨xs, m, _, rfl, hlen, hxl, hfi⟩ := DataW.trod_struct Try.underlying34 h
  have hc : Try.prog.cellsOf 34 = 5 := by kernel_rfl
  match xs, hxl, cs, hlen.trans hc with
  | [y0, y1, y2, y3, y4], _, [v0, v1, v2, v3, v4], _ =>
    have k1 : Try.prog.cellsOf 3 = 1 := by kernel_rfl
    have k4 : Try.prog.cellsOf 9 = 1 := by kernel_rfl
    have k5 : Try.prog.cellsOf 32 = 1 := by kernel_rfl
    have g0 : DataW.trod enc Try.prog W base spare held m 3 (([v0, v1, v2, v3, v4].drop 0).take (Try.prog.cellsOf 3)) = some y0 := hfi 0 _ rfl
    rw [k1] at g0
    replace g0 : DataW.trod enc Try.prog W base spare held m 3 [v0] = some y0 := g0
    have g1 : DataW.trod enc Try.prog W base spare held m 3 (([v0, v1, v2, v3, v4].drop 1).take (Try.prog.cellsOf 3)) = some y1 := hfi 1 _ rfl
    rw [k1] at g1
    replace g1 : DataW.trod enc Try.prog W base spare held m 3 [v1] = some y1 := g1
    have g2 : DataW.trod enc Try.prog W base spare held m 9 (([v0, v1, v2, v3, v4].drop 2).take (Try.prog.cellsOf 9)) = some y2 := hfi 2 _ rfl
    rw [k4] at g2
    replace g2 : DataW.trod enc Try.prog W base spare held m 9 [v2] = some y2 := g2
    have g3 : DataW.trod enc Try.prog W base spare held m 9 (([v0, v1, v2, v3, v4].drop 3).take (Try.prog.cellsOf 9)) = some y3 := hfi 3 _ rfl
    rw [k4] at g3
    replace g3 : DataW.trod enc Try.prog W base spare held m 9 [v3] = some y3 := g3
    have g4 : DataW.trod enc Try.prog W base spare held m 32 (([v0, v1, v2, v3, v4].drop 4).take (Try.prog.cellsOf 32)) = some y4 := hfi 4 _ rfl
    rw [k5] at g4
    replace g4 : DataW.trod enc Try.prog W base spare held m 32 [v4] = some y4 := g4
    obtain ⟨n0, q0, _, w0⟩ := DataW.trod_int Try.underlying3 g0
    obtain ⟨n1, q1, _, w1⟩ := DataW.trod_int Try.underlying3 g1
    obtain ⟨x2, q2, z2, _⟩ := DataW.trod_string Try.underlying9 g2
    obtain ⟨x3, q3, z3, _⟩ := DataW.trod_string Try.underlying9 g3
    have l2 := Light.part (j := 2) Try.underlying34 hl rfl rfl
    have l3 := Light.part (j := 3) Try.underlying34 hl rfl rfl
    have l4 := Light.part (j := 4) Try.underlying34 hl rfl rfl
    rw [z2] at l2
    rw [z3] at l3
    obtain ⟨l, hb, hz⟩ := bs_light (x := v4) Try.underlying32 Try.underlying5 (by kernel_rfl) (by kernel_rfl) (d := y4.1) (p := y4.2) g4 l4
    injection q0 with q0
    injection q1 with q1
    injection q2 with q2
    injection q3 with q3
    exact ⟨⟨n0, n1, x2.data.toList, x3.data.toList, l, v4⟩, by rw [q0, q1, q2, q3, sv_of x2, sv_of x3], hb, by simpa [Lit.wf, IntKind.bits, IntKind.signed, IntKind.min, IntKind.max] using w1, l2.str, l3.str, hz⟩
theorem steps_in (h : DataW.Trod enc Try.prog W base spare held 22 v d p) (hv : ∃ a len cap, v = .slice a len cap) (hl : Light Try.prog 22 d) :
    ∃ C, Sts W (fun _ => True) v C ∧ (∀ c ∈ C, StOk W c) ∧ C.length ≤ 140737488351232 := by
  obtain ⟨C, h1, h2, h3⟩ := recs_in stl stl_len (fun c => StOk W c) Try.underlying22 (by kernel_rfl) (bts := 72) (by kernel_rfl) step_each hv h hl
  exact ⟨C, h1, h2, by omega⟩
end
def wS (L : List St) : Nat := (L.map fun c => c.a.length + c.t.length + c.b.length).sum
theorem wS_cons (a : St) (L : List St) : wS (a :: L) = a.a.length + a.t.length + a.b.length + wS L := by simp [wS]
theorem wS_append (L M : List St) : wS (L ++ M) = wS L + wS M := by simp [wS]
theorem wS_snoc (L : List St) {k : Nat} (h : k < L.length) : wS (L.take (k + 1)) = wS (L.take k) + (L[k].a.length + L[k].t.length + L[k].b.length) := by
  rw [List.take_succ_eq_append_getElem h, wS_append, wS_cons]; simp [wS]
theorem wS_mem {L : List St} {a : St} (h : a ∈ L) : a.a.length + a.t.length + a.b.length ≤ wS L := by
  induction L with
  | nil => cases h
  | cons b L ih =>
    rw [wS_cons]
    rcases List.mem_cons.1 h with rfl | h
    · omega
    · have := ih h; omega
theorem wS_few {L : List St} (h : wS (L.take 120) ≤ 8000) {k : Nat} (hk : k < L.length) (h2 : k < 120) : L[k].a.length ≤ 8000 ∧ L[k].t.length ≤ 8000 ∧ L[k].b.length ≤ 8000 := by
  have hm : L[k] ∈ L.take 120 := by
    rw [List.mem_take_iff_getElem]
    exact ⟨k, by omega, rfl⟩
  have := wS_mem hm
  omega
set_option maxHeartbeats 4000000 in
theorem heavy3_any {w : World} {S : Nat → Prop} {v : Value} {L : List St} (h : Sts w S v L) (hok : ∀ c ∈ L, StOk w c) (hl : L.length ≤ 140737488351232) :
    Calls Try.prog 4 #[v] w fun e w' => ∃ q : Bool, e = .returned (.bool q) ∧ (q = false → wS (L.take 120) ≤ 8000) ∧ Ext w w' := by
  obtain ⟨A, c, rfl, h1, h2, h3, h4⟩ := h.open_ stl_len
  go_enter Try.func4, Try.ntmps4
  go_wp2_with fail
  go_loopw [3, 4] (fun n i wr => ∃ k : Nat, k ≤ L.length ∧ i = .int .i64 k ∧ n = .int .i64 (wS (L.take k) : Nat) ∧ Hid (wS (L.take k) ≤ 8000 ∧ k ≤ 120) ∧ Ext w wr) (fun _ i _ => L.length - (intOf i).toNat)
  case atStart => exact ⟨0, by omega, rfl, rfl, Lib.hid (by simp [wS]), Mod.refl _ _⟩
  case round =>
    obtain ⟨k, hk, rfl, rfl, hw0, hxr⟩ := hrel
    by_cases hlt : k < L.length
    · have hbl : decide ((k : Int) < (L.length : Int)) = true := dtrue (by omega)
      by_cases hk3 : k < 120
      case neg =>
        have hbk : decide ((k : Int) < 120) = false := dfalse (by omega)
        have hw2 : wS (L.take 120) ≤ 8000 := by
          have := hw0.out
          obtain rfl : k = 120 := by omega
          exact this.1
        replace hw2 := Lib.hid hw2
        go_wp2_with fail
        go_ret
        exact ⟨false, rfl, fun _ => hw2.out, hxr⟩
      have hbk : decide ((k : Int) < 120) = true := dtrue (by omega)
      obtain ⟨ad, hA, hS, c0, c1, c2, c3, c4⟩ := Sts.at_ (h4.ext hxr) hlt
      subst hA
      obtain ⟨k0, _, k1, k2, k3⟩ := hok _ (List.getElem_mem hlt)
      obtain ⟨B, cb, hv, _⟩ := k0.open_
      rw [hv] at c4
      have hsn := wS_snoc L hlt
      obtain ⟨hw, hk2⟩ := hw0.out
      have hi0 : (0 : Int) ≤ (k : Int) := by omega
      have hi1 : (k : Int) < (L.length : Int) := by omega
      generalize L[k] = x at *
      generalize wS (L.take k) = n at *
      have hz1 := sv_size x.a
      have hz2 := sv_size x.t
      have hdw : ∀ m, Ext w (wr.drewN m) := fun m => hxr.drewN m
      have hadd : IntKind.i64.wrap ((n : Int) + (x.a.length : Int)) = ((n + x.a.length : Nat) : Int) := by rw [IntKind.wrap_i64]; omega
      have hadd2 : IntKind.i64.wrap (((n + x.a.length : Nat) : Int) + (x.t.length : Int)) = ((n + x.a.length + x.t.length : Nat) : Int) := by rw [IntKind.wrap_i64]; omega
      have hadd3 : IntKind.i64.wrap (((n + x.a.length + x.t.length : Nat) : Int) + (x.b.length : Int)) = ((n + x.a.length + x.t.length + x.b.length : Nat) : Int) := by rw [IntKind.wrap_i64]; omega
      by_cases hgt : 8000 < n + x.a.length + x.t.length + x.b.length
      · have hbg : decide ((8000 : Int) < (n : Int) + (x.a.length : Int) + (x.t.length : Int) + (x.b.length : Int)) = true := dtrue (by omega)
        clear hv
        go_wp2_with fail
        go_quiet (fail)
        go_wp2_with fail
        go_ret
        exact ⟨true, rfl, by simp, hdw _⟩
      · have hbg : decide ((8000 : Int) < (n : Int) + (x.a.length : Int) + (x.t.length : Int) + (x.b.length : Int)) = false := dfalse (by omega)
        replace hsn := Lib.hid hsn
        clear hv
        go_wp2_with fail
        go_quiet (fail)
        go_wp2_with fail
        exact ⟨⟨k + 1, by omega, by go_num, by rw [hsn.out]; congr 1; omega, Lib.hid (by rw [hsn.out]; omega), hdw _⟩, by simp [intOf] <;> omega⟩
    · have hbl : decide ((k : Int) < (L.length : Int)) = false := dfalse (by omega)
      have hw2 : wS (L.take 120) ≤ 8000 := by
        have := hw0.out
        rw [List.take_of_length_le (by omega)] at this ⊢
        exact this.1
      replace hw2 := Lib.hid hw2
      go_wp2_with fail
      go_ret
      exact ⟨false, rfl, fun _ => hw2.out, hxr⟩
end Go.Proofs.Ytnmfkfjeihjkeaa
namespace Go.Proofs.Ytnmfkfjeihjkeaa
open Go.RowKit Go.Maps Go.WideMaps
set_option maxRecDepth 100000

/-- Both disks lie apart from what N names, and from one another. -/
def Pair (N : Nat → Prop) (w : World) (v u : Value) (d d' : Ds) : Prop := ∃ S T, Dk S w v d ∧ Rd T w u d' ∧ (∀ k, S k → k < w.heap.size ∧ ¬ N k) ∧ (∀ k, T k → k < w.heap.size ∧ ¬ N k) ∧ ∀ k, S k → ¬ T k
section
variable {N N' : Nat → Prop} {w w' : World} {v u : Value} {d d' d1 : Ds}
theorem Pair.ext (h : Pair N w v u d d') (x : Ext w w') : Pair N w' v u d d' := by
  obtain ⟨S, T, h1, h2, h3, h4, h5⟩ := h
  have := x.size
  exact ⟨S, T, h1.ext x, h2.ext x, fun k hk => ⟨by have := (h3 k hk).1; omega, (h3 k hk).2⟩, fun k hk => ⟨by have := (h4 k hk).1; omega, (h4 k hk).2⟩, h5⟩
theorem Pair.more (h : Pair N w v u d d') (hN : ∀ k, N' k → N k ∨ w.heap.size ≤ k) : Pair N' w v u d d' := by
  obtain ⟨S, T, h1, h2, h3, h4, h5⟩ := h
  refine ⟨S, T, h1, h2, fun k hk => ⟨(h3 k hk).1, fun hn => ?_⟩, fun k hk => ⟨(h4 k hk).1, fun hn => ?_⟩, h5⟩
  · rcases hN k hn with h | h
    · exact (h3 k hk).2 h
    · have := (h3 k hk).1; omega
  · rcases hN k hn with h | h
    · exact (h4 k hk).2 h
    · have := (h4 k hk).1; omega
theorem Pair.left_ (h : Pair N w v u d d') (hN : ∀ k, N k → k < w.heap.size) {P : Program} {f : FuncId} {args : Array Value} {E : Ending → Prop} (hc : ∀ S, Dk S w v d → (∀ k, S k → k < w.heap.size ∧ ¬ N k) → Calls P f args w fun e w' => E e ∧ Dk (Grow S w) w' v d1 ∧ Mod S w w') :
    Calls P f args w fun e w' => E e ∧ Pair N w' v u d1 d' ∧ Mod (fun k => ¬ N k) w w' := by
  obtain ⟨S, T, h1, h2, h3, h4, h5⟩ := h
  refine (hc S h1 h3).mono fun e w' ⟨e1, e2, e3⟩ => ⟨e1, ⟨_, T, e2.cut, h2.mod e3 fun k _ hk hs => h5 k hs hk, fun k hk => ⟨hk.2, fun hn => ?_⟩, fun k hk => ⟨Nat.lt_of_lt_of_le (h4 k hk).1 e3.size, (h4 k hk).2⟩, fun k hk ht => ?_⟩, e3.mono fun k _ hk => (h3 k hk).2⟩
  · rcases hk.1 with h | h
    · exact (h3 k h).2 hn
    · have := hN k hn; omega
  · rcases hk.1 with h | h
    · exact h5 k h ht
    · have := (h4 k ht).1; omega
theorem Pair.right_ (h : Pair N w v u d d') (hN : ∀ k, N k → k < w.heap.size) {P : Program} {f : FuncId} {args : Array Value} {E : Ending → Prop} (hc : ∀ T, Rd T w u d' → (∀ k, T k → k < w.heap.size ∧ ¬ N k) → Calls P f args w fun e w' => E e ∧ Rd (Grow T w) w' u d1 ∧ Mod T w w') :
    Calls P f args w fun e w' => E e ∧ Pair N w' v u d d1 ∧ Mod (fun k => ¬ N k) w w' := by
  obtain ⟨S, T, h1, h2, h3, h4, h5⟩ := h
  refine (hc T h2 h4).mono fun e w' ⟨e1, e2, e3⟩ => ⟨e1, ⟨S, _, h1.mod e3 fun k _ hs hk => h5 k hs hk, e2.cut, fun k hk => ⟨Nat.lt_of_lt_of_le (h3 k hk).1 e3.size, (h3 k hk).2⟩, fun k hk => ⟨hk.2, fun hn => ?_⟩, fun k hs hk => ?_⟩, e3.mono fun k _ hk => (h4 k hk).2⟩
  · rcases hk.1 with h | h
    · exact (h4 k h).2 hn
    · have := hN k hn; omega
  · rcases hk.1 with h | h
    · exact h5 k hs h
    · have := (h3 k hs).1; omega
end
theorem each_one (F : Ds → List UInt8 → Ds × Nat) (d : Ds) (x : List UInt8) : eachD F d [x] = F d x := by
  unfold eachD
  by_cases h : (F d x).2 = 0
  · rw [if_neg (by simpa using h)]
    unfold eachD
    rw [← h]
  · rw [if_pos h]
theorem boxed {N : Nat → Prop} {w : World} {v u : Value} {d : Ds} (h : Pair N w v u d d) (hN : ∀ k, N k → k < w.heap.size) (s : St) :
    ∃ (N1 : Nat → Prop) (w1 : World) (wb : Nat), w.alloc (.cells (star s) 34) = w1 ∧ w.heap.size = wb ∧ Pair N1 w1 v u d d ∧ (∀ k, N1 k → k < w1.heap.size) ∧ (∀ k, N k → N1 k) ∧ N1 wb ∧ Blk w1 wb 34 (star s) ∧ Ext w w1 := by
  refine ⟨fun k => N k ∨ k = w.heap.size, _, _, rfl, rfl, ?_, fun k hk => ?_, fun k hk => .inl hk, .inr rfl, Blk.new _ _ _, (Mod.refl _ w).alloc _⟩
  · exact (h.more (N' := fun k => N k ∨ k = w.heap.size) fun k hk => hk.imp id fun e => by omega).ext ((Mod.refl _ w).alloc _)
  · have e : (w.alloc (.cells (star s) 34)).heap.size = w.heap.size + 1 := by simp
    rcases hk with h | h
    · have := hN k h; omega
    · omega
theorem Pair.less {N N' : Nat → Prop} {w : World} {v u : Value} {d d' : Ds} (h : Pair N w v u d d') (hN : ∀ k, N' k → N k) : Pair N' w v u d d' := h.more fun k hk => .inl (hN k hk)
/-- A new block stands apart. -/
theorem Pair.new {N : Nat → Prop} {w : World} {v u : Value} {d d' : Ds} (h : Pair N w v u d d') (hN : ∀ k, N k → k < w.heap.size) (o : Obj) : Pair (fun k => N k ∨ k = w.heap.size) (w.alloc o) v u d d' ∧ (∀ k, (N k ∨ k = w.heap.size) → k < (w.alloc o).heap.size) ∧ Ext w (w.alloc o) := by
  have e : (w.alloc o).heap.size = w.heap.size + 1 := by simp
  refine ⟨(h.more fun k hk => hk.imp id fun e => by omega).ext ((Mod.refl _ w).alloc _), fun k hk => ?_, (Mod.refl _ w).alloc _⟩
  rcases hk with h | h
  · have := hN k h; omega
  · omega
section
variable {N : Nat → Prop} {w : World} {v u : Value} {d : Ds} {n : Int} {a t b : List UInt8} {vb : Value}
theorem fuse_dk {S : Nat → Prop} (h : Dk S w v d) (n : Int) (hn : n ≤ 9223372036854775807) :
    Calls Try.prog 23 #[v, .int .i64 n] w fun e w' => e = .returned (.tuple #[]) ∧ Dk (Grow S w) w' v (fuseD d n) ∧ Mod S w w' := by
  obtain ⟨bd, bm, D, G, rfl, h⟩ := h
  have hs := h.sd
  exact (fuse_any h n hn).mono fun e w' ⟨e1, e2, e3⟩ => ⟨e1, ⟨bd, bm, D, G, rfl, e2.mono fun k _ hk => .inl hk⟩, e3.mono fun k _ hk => hk ▸ hs⟩
set_option maxHeartbeats 16000000 in
theorem does2 (h : Pair N w v u d d) (hN : ∀ k, N k → k < w.heap.size) :
    Calls Try.prog 12 #[v, u, .agg (star ⟨2, n, a, t, b, vb⟩)] w fun e w' => e = .returned (.bool true) ∧ (∃ d1, Pair N w' v u d1 d1) ∧ Mod (fun k => ¬ N k) w w' := by
  go_enter Try.func12, Try.ntmps12
  go_upto_region 13 with fail
  obtain ⟨N1, w1, wb, hw1, hwb, hP, hN1, hsub, hb1, bX, x1⟩ := boxed h hN ⟨2, n, a, t, b, vb⟩
  rw [hw1, hwb]
  clear h hw1 hwb
  have q0 : Ext w1 w1.drew := (Mod.refl _ w1).drew
  obtain ⟨P2, hN2, q2⟩ := (hP.ext q0).new hN1 (.cells #[sv a] 9)
  have x2 := ext_trans q0 q2
  have hc1 := P2.left_ hN2 (fun S hd hs => Sync_any hd (one_name w1.drew a) fun k hk hS => (hs k hS).2 (.inr hk))
  rw [each_one] at hc1
  have hS : ∀ {wx : World}, Mod (fun k => ¬ N1 k) w1 wx → wx.cell? ⟨wb, 2, none⟩ = some (sv a) := fun m => (bX.mod m fun hn => hn hb1).cell 2
  have p0 : Mod (fun k => ¬ N1 k) w1 w1.drew := (Mod.refl _ w1).drew
  have p2 : Mod (fun k => ¬ N1 k) w1 (w1.drew.alloc (.cells #[sv a] 9)) := x2.mono fun _ _ h => h.elim
  have z2 := hS p2
  have hr := fun (w3 : World) (P3 : Pair (fun k => N1 k ∨ k = w1.drew.heap.size) w3 v u (syncD d a).1 d) (hN3 : ∀ k, (N1 k ∨ k = w1.drew.heap.size) → k < w3.heap.size) => P3.right_ hN3 (fun T hd _ => rsync_any hd a)
  generalize (syncD d a).2 = m at *
  go_region_held3 (fun wx => wx.cell? ⟨wb, 2, none⟩ = some (sv a)) (first | exact hS p0 | exact z2 | exact q3 | exact q4)
    (first
      | (go_at_call 14; refine hc1.mono ?_; rintro e w3 ⟨rfl, P3, m3⟩; have p3 := p2.then_ m3 fun k _ hk hn => hk (.inl hn); have q3 := hS p3; have hc2 := hr w3 P3 fun k hk => Nat.lt_of_lt_of_le (hN2 k hk) m3.size)
      | (go_at_call 28; refine hc2.mono ?_; rintro e w4 ⟨rfl, P4, m4⟩; have p4 := p3.then_ m4 fun k _ hk hn => hk (.inl hn); have q4 := hS p4))
  go_wp2_with fail
  go_ret
  exact ⟨rfl, ⟨_, P4.less fun k hk => .inl (hsub k hk)⟩, (x1.mono fun _ _ h => h.elim).then_ p4 fun k _ hk hn => hk (hsub k hn)⟩
set_option maxHeartbeats 16000000 in
theorem does5 (h : Pair N w v u d d) (hN : ∀ k, N k → k < w.heap.size) :
    Calls Try.prog 12 #[v, u, .agg (star ⟨5, n, a, t, b, vb⟩)] w fun e w' => e = .returned (.bool true) ∧ (∃ d1, Pair N w' v u d1 d1) ∧ Mod (fun k => ¬ N k) w w' := by
  go_enter Try.func12, Try.ntmps12
  go_upto_region 19 with fail
  obtain ⟨N1, w1, wb, hw1, hwb, hP, hN1, hsub, hb1, bX, x1⟩ := boxed h hN ⟨5, n, a, t, b, vb⟩
  rw [hw1, hwb]
  clear h hw1 hwb
  have q0 : Ext w1 w1.drew := (Mod.refl _ w1).drew
  obtain ⟨P2, hN2, q2⟩ := (hP.ext q0).new hN1 (.cells #[sv a] 9)
  have x2 := ext_trans q0 q2
  have hc1 := P2.left_ hN2 (fun S hd hs => Remove_any hd (one_name w1.drew a) fun k hk hS => (hs k hS).2 (.inr hk))
  rw [each_one] at hc1
  have hS : ∀ {wx : World}, Mod (fun k => ¬ N1 k) w1 wx → wx.cell? ⟨wb, 2, none⟩ = some (sv a) := fun m => (bX.mod m fun hn => hn hb1).cell 2
  have p0 : Mod (fun k => ¬ N1 k) w1 w1.drew := (Mod.refl _ w1).drew
  have p2 : Mod (fun k => ¬ N1 k) w1 (w1.drew.alloc (.cells #[sv a] 9)) := x2.mono fun _ _ h => h.elim
  have z2 := hS p2
  have hr := fun (w3 : World) (P3 : Pair (fun k => N1 k ∨ k = w1.drew.heap.size) w3 v u (removeD d a).1 d) (hN3 : ∀ k, (N1 k ∨ k = w1.drew.heap.size) → k < w3.heap.size) => P3.right_ hN3 (fun T hd _ => rremove_any hd a)
  generalize (removeD d a).2 = m at *
  go_region_held3 (fun wx => wx.cell? ⟨wb, 2, none⟩ = some (sv a)) (first | exact hS p0 | exact z2 | exact q3 | exact q4)
    (first
      | (go_at_call 33; refine hc1.mono ?_; rintro e w3 ⟨rfl, P3, m3⟩; have p3 := p2.then_ m3 fun k _ hk hn => hk (.inl hn); have q3 := hS p3; have hc2 := hr w3 P3 fun k hk => Nat.lt_of_lt_of_le (hN2 k hk) m3.size)
      | (go_at_call 34; refine hc2.mono ?_; rintro e w4 ⟨rfl, P4, m4⟩; have p4 := p3.then_ m4 fun k _ hk hn => hk (.inl hn); have q4 := hS p4))
  go_wp2_with fail
  go_ret
  exact ⟨rfl, ⟨_, P4.less fun k hk => .inl (hsub k hk)⟩, (x1.mono fun _ _ h => h.elim).then_ p4 fun k _ hk hn => hk (hsub k hn)⟩
set_option maxHeartbeats 16000000 in
theorem does3 (h : Pair N w v u d d) (hN : ∀ k, N k → k < w.heap.size) (hn : -9223372036854775808 ≤ n ∧ n ≤ 9223372036854775807) :
    Calls Try.prog 12 #[v, u, .agg (star ⟨3, n, a, t, b, vb⟩)] w fun e w' => e = .returned (.bool true) ∧ (∃ d1, Pair N w' v u d1 d1) ∧ Mod (fun k => ¬ N k) w w' := by
  go_enter Try.func12, Try.ntmps12
  go_upto_region 15 with fail
  obtain ⟨N1, w1, wb, hw1, hwb, hP, hN1, hsub, hb1, bX, x1⟩ := boxed h hN ⟨3, n, a, t, b, vb⟩
  rw [hw1, hwb]
  clear h hw1 hwb
  have q0 : Ext w1 w1.drew := (Mod.refl _ w1).drew
  have P2 := hP.ext q0
  have hc1 := P2.left_ hN1 (fun S hd hs => trunc_any hd a n)
  have hS : ∀ {wx : World}, Mod (fun k => ¬ N1 k) w1 wx → wx.cell? ⟨wb, 1, none⟩ = some (.int .i64 n) ∧ wx.cell? ⟨wb, 2, none⟩ = some (sv a) := fun {wx} m => by
    have b2 := bX.mod m fun hn => hn hb1
    exact ⟨b2.cell 1, b2.cell 2⟩
  have p0 : Mod (fun k => ¬ N1 k) w1 w1.drew := (Mod.refl _ w1).drew
  have hr := fun (w3 : World) (P3 : Pair N1 w3 v u (truncD d a n).1 d) (hN3 : ∀ k, N1 k → k < w3.heap.size) => P3.right_ hN3 (fun T hd _ => rtrunc_any hd a n hn)
  generalize (truncD d a n).2 = m at *
  go_region_held3 (fun wx => wx.cell? ⟨wb, 1, none⟩ = some (.int .i64 n) ∧ wx.cell? ⟨wb, 2, none⟩ = some (sv a)) (first | exact hS p0 | exact q3 | exact q4)
    (first
      | (go_at_call 29; refine hc1.mono ?_; rintro e w3 ⟨rfl, P3, m3⟩; have p3 := p0.then_ m3 fun k _ hk hn => hk hn; have q3 := hS p3; have hc2 := hr w3 P3 fun k hk => Nat.lt_of_lt_of_le (hN1 k hk) m3.size)
      | (go_at_call 30; refine hc2.mono ?_; rintro e w4 ⟨rfl, P4, m4⟩; have p4 := p3.then_ m4 fun k _ hk hn => hk hn; have q4 := hS p4))
  go_wp2_with fail
  go_ret
  exact ⟨rfl, ⟨_, P4.less fun k hk => hsub k hk⟩, (x1.mono fun _ _ h => h.elim).then_ p4 fun k _ hk hn => hk (hsub k hn)⟩
set_option maxHeartbeats 16000000 in
theorem does4 (h : Pair N w v u d d) (hN : ∀ k, N k → k < w.heap.size) :
    Calls Try.prog 12 #[v, u, .agg (star ⟨4, n, a, t, b, vb⟩)] w fun e w' => e = .returned (.bool true) ∧ (∃ d1, Pair N w' v u d1 d1) ∧ Mod (fun k => ¬ N k) w w' := by
  go_enter Try.func12, Try.ntmps12
  go_upto_region 17 with fail
  obtain ⟨N1, w1, wb, hw1, hwb, hP, hN1, hsub, hb1, bX, x1⟩ := boxed h hN ⟨4, n, a, t, b, vb⟩
  rw [hw1, hwb]
  clear h hw1 hwb
  have q0 : Ext w1 w1.drew := (Mod.refl _ w1).drew
  have P2 := hP.ext q0
  have hc1 := P2.left_ hN1 (fun S hd hs => rename_any hd a t)
  have hS : ∀ {wx : World}, Mod (fun k => ¬ N1 k) w1 wx → wx.cell? ⟨wb, 2, none⟩ = some (sv a) ∧ wx.cell? ⟨wb, 3, none⟩ = some (sv t) := fun {wx} m => by
    have b2 := bX.mod m fun hn => hn hb1
    exact ⟨b2.cell 2, b2.cell 3⟩
  have p0 : Mod (fun k => ¬ N1 k) w1 w1.drew := (Mod.refl _ w1).drew
  have hr := fun (w3 : World) (P3 : Pair N1 w3 v u (renameD d a t).1 d) (hN3 : ∀ k, N1 k → k < w3.heap.size) => P3.right_ hN3 (fun T hd _ => rrename_any hd a t)
  generalize (renameD d a t).2 = m at *
  go_region_held3 (fun wx => wx.cell? ⟨wb, 2, none⟩ = some (sv a) ∧ wx.cell? ⟨wb, 3, none⟩ = some (sv t)) (first | exact hS p0 | exact q3 | exact q4)
    (first
      | (go_at_call 31; refine hc1.mono ?_; rintro e w3 ⟨rfl, P3, m3⟩; have p3 := p0.then_ m3 fun k _ hk hn => hk hn; have q3 := hS p3; have hc2 := hr w3 P3 fun k hk => Nat.lt_of_lt_of_le (hN1 k hk) m3.size)
      | (go_at_call 32; refine hc2.mono ?_; rintro e w4 ⟨rfl, P4, m4⟩; have p4 := p3.then_ m4 fun k _ hk hn => hk hn; have q4 := hS p4))
  go_wp2_with fail
  go_ret
  exact ⟨rfl, ⟨_, P4.less fun k hk => hsub k hk⟩, (x1.mono fun _ _ h => h.elim).then_ p4 fun k _ hk hn => hk (hsub k hn)⟩
set_option maxHeartbeats 16000000 in
theorem does6 (h : Pair N w v u d d) (hN : ∀ k, N k → k < w.heap.size) (hn : -9223372036854775808 ≤ n ∧ n ≤ 9223372036854775807) :
    Calls Try.prog 12 #[v, u, .agg (star ⟨6, n, a, t, b, vb⟩)] w fun e w' => e = .returned (.bool true) ∧ (∃ d1, Pair N w' v u d1 d1) ∧ Mod (fun k => ¬ N k) w w' := by
  go_enter Try.func12, Try.ntmps12
  go_upto_region 21 with fail
  obtain ⟨N1, w1, wb, hw1, hwb, hP, hN1, hsub, hb1, bX, x1⟩ := boxed h hN ⟨6, n, a, t, b, vb⟩
  rw [hw1, hwb]
  clear h hw1 hwb
  have b1 : w1.cell? ⟨wb, 1, none⟩ = some (.int .i64 n) := bX.cell 1
  have hc1 := hP.left_ hN1 (fun S hd hs => fuse_dk hd n hn.2)
  go_wp2_with fail
  refine hc1.mono ?_
  rintro e w3 ⟨rfl, P3, m3⟩
  have hc2 := P3.right_ (fun k hk => Nat.lt_of_lt_of_le (hN1 k hk) m3.size) (fun T hd _ => rfuse_any hd n hn.2)
  have b3 : w3.cell? ⟨wb, 1, none⟩ = some (.int .i64 n) := (bX.mod m3 fun hn => hn hb1).cell 1
  clear hc1
  go_wp2_with fail
  refine hc2.mono ?_
  rintro e w4 ⟨rfl, P4, m4⟩
  clear hc2
  go_wp2_with fail
  go_ret
  exact ⟨rfl, ⟨_, P4.less fun k hk => hsub k hk⟩, ((x1.mono (G := fun k => ¬ N k) fun _ _ h => h.elim).then_ m3 fun k _ hk hn => hk (hsub k hn)).then_ m4 fun k _ hk hn => hk (hsub k hn)⟩
set_option maxHeartbeats 16000000 in
theorem does7 (h : Pair N w v u d d) (hN : ∀ k, N k → k < w.heap.size) (hn : -9223372036854775808 ≤ n ∧ n ≤ 9223372036854775807) :
    Calls Try.prog 12 #[v, u, .agg (star ⟨7, n, a, t, b, vb⟩)] w fun e w' => e = .returned (.bool true) ∧ (∃ d1, Pair N w' v u d1 d1) ∧ Mod (fun k => ¬ N k) w w' := by
  go_enter Try.func12, Try.ntmps12
  go_upto_region 24 with fail
  obtain ⟨N1, w1, wb, hw1, hwb, hP, hN1, hsub, hb1, bX, x1⟩ := boxed h hN ⟨7, n, a, t, b, vb⟩
  rw [hw1, hwb]
  clear h hw1 hwb
  have b1 : w1.cell? ⟨wb, 1, none⟩ = some (.int .i64 n) := bX.cell 1
  have hc1 := hP.left_ hN1 (fun S hd hs => crash_any hd n hn.2)
  go_wp2_with fail
  refine hc1.mono ?_
  rintro e w3 ⟨rfl, P3, m3⟩
  have hc2 := P3.right_ (fun k hk => Nat.lt_of_lt_of_le (hN1 k hk) m3.size) (fun T hd _ => rcrash_any hd n hn.2)
  have b3 : w3.cell? ⟨wb, 1, none⟩ = some (.int .i64 n) := (bX.mod m3 fun hn => hn hb1).cell 1
  clear hc1
  go_wp2_with fail
  refine hc2.mono ?_
  rintro e w4 ⟨rfl, P4, m4⟩
  clear hc2
  go_wp2_with fail
  go_ret
  exact ⟨rfl, ⟨_, P4.less fun k hk => hsub k hk⟩, ((x1.mono (G := fun k => ¬ N k) fun _ _ h => h.elim).then_ m3 fun k _ hk hn => hk (hsub k hn)).then_ m4 fun k _ hk hn => hk (hsub k hn)⟩
end
end Go.Proofs.Ytnmfkfjeihjkeaa
namespace Go.Proofs.Ytnmfkfjeihjkeaa
open Go.RowKit Go.Maps Go.WideMaps
set_option maxRecDepth 100000

section
variable {N F : Nat → Prop} {w w' : World} {v u : Value} {d d' : Ds} {k n : Int} {a t b : List UInt8} {vb : Value}
theorem Pair.mod (h : Pair N w v u d d') (hm : Mod F w w') (hF : ∀ k, F k → N k) : Pair N w' v u d d' := by
  obtain ⟨S, T, h1, h2, h3, h4, h5⟩ := h
  have := hm.size
  exact ⟨S, T, h1.mod hm fun k _ hs hf => (h3 k hs).2 (hF k hf), h2.mod hm fun k _ hs hf => (h4 k hs).2 (hF k hf), fun k hk => ⟨by have := (h3 k hk).1; omega, (h3 k hk).2⟩, fun k hk => ⟨by have := (h4 k hk).1; omega, (h4 k hk).2⟩, h5⟩
theorem Dk.read_len {S : Nat → Prop} (h : Dk S w v d) (x : List UInt8) : ((readD d x).getD []).length ≤ 1073741824 := by
  obtain ⟨bd, bm, D, G, rfl, h⟩ := h
  have h1 := h.room
  have h2 := h.most
  unfold readD
  cases e : getF d.L x with
  | none => simp
  | some f =>
    have := len_of_mem h.rise (getF_mem e)
    simp
    omega
set_option maxHeartbeats 16000000 in
theorem does0 (h : Pair N w v u d d) (hN : ∀ k, N k → k < w.heap.size) (ha : a.length ≤ 1000000) (k1 : (k == 1) = false) (k2 : (k == 2) = false) (k3 : (k == 3) = false) (k4 : (k == 4) = false) (k5 : (k == 5) = false) (k6 : (k == 6) = false) (k7 : (k == 7) = false) :
    Calls Try.prog 12 #[v, u, .agg (star ⟨k, n, a, t, b, vb⟩)] w fun e w' => e = .returned (.bool true) ∧ (∃ d1, Pair N w' v u d1 d1) ∧ Mod (fun k => ¬ N k) w w' := by
  go_enter Try.func12, Try.ntmps12
  go_upto_region 1 with fail
  obtain ⟨N1, w1, wb, hw1, hwb, hP, hN1, hsub, hb1, bX, x1⟩ := boxed h hN ⟨k, n, a, t, b, vb⟩
  rw [hw1, hwb]
  clear h hw1 hwb
  have b0 : w1.cell? ⟨wb, 0, none⟩ = some (.int .i64 k) := bX.cell 0
  have b1 : w1.cell? ⟨wb, 2, none⟩ = some (sv a) := bX.cell 2
  obtain ⟨S, T, hd, hr, hS, hT, hST⟩ := id hP
  have hc1 := read_any hd a ha
  go_wp2_with fail
  refine hc1.mono ?_
  rintro e w3 ⟨u1, rfl, o1, f1, y1⟩
  have hc2 := rread_any (hr.ext y1) a
  have b3 : w3.cell? ⟨wb, 2, none⟩ = some (sv a) := (bX.mod y1 fun hn => hn).cell 2
  clear hc1
  go_wp2_with fail
  refine hc2.mono ?_
  rintro e w4 ⟨u2, rfl, o2, f2, y2⟩
  have o1' := o1.mod y2 fun _ _ h => h
  have hc3 := same_any o1'.sl o2.sl
  rw [decide_eq_true rfl] at hc3
  generalize codeR (readD d a) = m at *
  clear hc2
  go_wp2_with fail
  refine hc3.mono ?_
  rintro e w5 ⟨rfl, kk, rfl⟩
  have o5 : Own (w4.drewN kk) 5 u1 (((readD d a).getD []).map bv) := o1'
  have hle := hd.read_len a
  have hc4 := spoil_any o5 (by omega)
  have y5 : Ext w1 (w4.drewN kk) := (ext_trans y1 y2).drewN kk
  clear hc3 hd hr hST
  generalize w4.drewN kk = w5 at *
  go_wp2_with fail
  refine hc4.mono ?_
  rintro e w6 ⟨rfl, m6⟩
  clear hc4
  go_wp2_with fail
  go_ret
  have y6 : Ext w1 w6 := ext_app0 y5 f1 m6
  exact ⟨rfl, ⟨_, (hP.ext y6).less hsub⟩, (ext_trans x1 y6).mono fun _ _ h => h.elim⟩
set_option maxHeartbeats 16000000 in
theorem does1 (h : Pair N w v u d d) (hN : ∀ k, N k → k < w.heap.size) (hb : Bs w N vb b) (hbl : b.length ≤ 8000) :
    Calls Try.prog 12 #[v, u, .agg (star ⟨1, n, a, t, b, vb⟩)] w fun e w' => e = .returned (.bool true) ∧ (∃ d1, Pair N w' v u d1 d1) ∧ Mod (fun k => ¬ N k) w w' := by
  obtain ⟨Bv, cb, rfl, _⟩ := hb.open_
  go_enter Try.func12, Try.ntmps12
  go_upto_region 8 with fail
  obtain ⟨N1, w1, wb, hw1, hwb, hP, hN1, hsub, hb1, bX, x1⟩ := boxed h hN ⟨1, n, a, t, b, .slice Bv b.length cb⟩
  rw [hw1, hwb]
  clear h hw1
  replace hwb := Lib.hid hwb
  have b0 : w1.cell? ⟨wb, 4, none⟩ = some (.slice Bv b.length cb) := bX.cell 4
  have hv1 := hb.mod x1 fun _ _ _ h => h
  have hc1 := roomy_any hv1 (by omega)
  go_wp2_with fail
  refine hc1.mono ?_
  rintro e w2 ⟨vr, rfl, o2, f2, x2⟩
  clear hc1
  -- the room is apart from all else
  obtain ⟨N2, hN2d⟩ : ∃ N2 : Nat → Prop, N2 = fun k => N1 k ∨ own vr k := ⟨_, rfl⟩
  have P2 : Pair N2 w2 v u d d := by
    rw [hN2d]
    exact (hP.more (N' := fun k => N1 k ∨ own vr k) fun k hk => hk.imp id fun h => f2 k h).ext x2
  have hN2 : ∀ k, N2 k → k < w2.heap.size := by
    rw [hN2d]
    rintro k (h | h)
    · exact Nat.lt_of_lt_of_le (hN1 k h) x2.size
    · exact o2.lt h
  have s12 : ∀ k, N1 k → N2 k := by rw [hN2d]; exact fun k h => .inl h
  have so2 : ∀ k, own vr k → N2 k := by rw [hN2d]; exact fun k h => .inr h
  have bX2 := bX.mod x2 fun h => h
  have hv2 := hv1.mod x2 fun _ _ _ h => h
  obtain ⟨A, c, hvr⟩ := o2.shape
  rw [List.length_map, List.length_append, List.length_singleton] at hvr
  subst hvr
  have o2s : Bs w2 (own (Value.slice A (b.length + 1) c)) (.slice A (b.length + 1) c) (b ++ [171]) := o2.sl
  obtain ⟨A', c', he, hlc, hcc, -⟩ := o2s.open_
  rw [List.length_append, List.length_singleton] at hlc he
  injection he with e1 _ e3
  subst e1
  subst e3
  have hbeg : Bs w2 (own (Value.slice A (b.length + 1) c)) (.slice A b.length c) b := by
    have := Bs.begin (A := A) (c := c) (m := b.length) (l := b ++ [171]) (by rw [List.length_append, List.length_singleton]; exact o2s) (by simp)
    rwa [List.take_left'] at this
    rfl
  have q0 : Ext w2 w2.drew := (Mod.refl _ w2).drew
  obtain ⟨P3, hN3, q3⟩ := (P2.ext q0).new hN2 (.cells #[.slice A b.length c] 32)
  have x3 := ext_trans q0 q3
  have hrow := Rw.one 32 (hbeg.mod q0 fun _ _ _ h => h)
  have hc1 := P3.left_ hN3 (fun S hd hs => append_any hd a hrow (fun k hk hS => (hs k hS).2 (hk.imp (so2 k) id)) (by simp))
  have hS : ∀ {wx : World}, Mod (fun k => ¬ N2 k) w2 wx → wx.cell? ⟨wb, 2, none⟩ = some (sv a) ∧ wx.cell? ⟨wb, 4, none⟩ = some (.slice Bv b.length cb) := fun {wx} m => by
    have b2 := bX2.mod m fun hn => hn (s12 _ hb1)
    exact ⟨b2.cell 2, b2.cell 4⟩
  have p0 : Mod (fun k => ¬ N2 k) w2 w2.drew := (Mod.refl _ w2).drew
  have p2 : Mod (fun k => ¬ N2 k) w2 (w2.drew.alloc (.cells #[.slice A b.length c] 32)) := x3.mono fun _ _ h => h.elim
  have z2 := hS p2
  have hvm : ∀ {wx : World}, Mod (fun k => ¬ N2 k) w2 wx → Bs wx N (.slice Bv b.length cb) b := fun m => hv2.mod m fun k _ hk hn => hn (s12 k (hsub k hk))
  have hr := fun (w3 : World) (P3 : Pair (fun k => N2 k ∨ k = w2.drew.heap.size) w3 v u (appendD d a [b]).1 d) (hN3 : ∀ k, (N2 k ∨ k = w2.drew.heap.size) → k < w3.heap.size) (m : Mod (fun k => ¬ N2 k) w2 w3) => P3.right_ hN3 (fun T hd hs => rappend_any hd a (hvm m) (by omega) (fun k hk hS => (hs k hS).2 (.inl (s12 k (hsub k hk)))))
  have hst := fun (w4 : World) (m : Mod (fun k => ¬ N2 k) w2 w4) => stands_any (o2.mod m fun k hk hn => hn (so2 k hk)).sl (hvm m)
  generalize (appendD d a [b]).2 = m at *
  have hi0 : (0 : Int) ≤ (b.length : Int) := by omega
  have hi1 : (b.length : Int) ≤ (c : Int) := by omega
  go_upto_region 9 with fail
  go_region_held3 (fun wx => wx.cell? ⟨wb, 2, none⟩ = some (sv a) ∧ wx.cell? ⟨wb, 4, none⟩ = some (.slice Bv b.length cb)) (first | exact hS p0 | exact z2 | exact q3' | exact q4 | exact q5)
    (first
      | (go_at_call 10; refine hc1.mono ?_; rintro e w3 ⟨rfl, P4, m3⟩; have p3 := p2.then_ m3 fun k _ hk hn => hk (.inl hn); have q3' := hS p3; have hc2 := hr w3 P4 (fun k hk => Nat.lt_of_lt_of_le (hN3 k hk) m3.size) p3)
      | (go_at_call 25; refine hc2.mono ?_; rintro e w4 ⟨rfl, P5, m4⟩; have p4 := p3.then_ m4 fun k _ hk hn => hk (.inl hn); have q4 := hS p4; have hc3 := hst w4 p4)
      | (go_at_call 26; refine hc3.mono ?_; rintro e w5 ⟨rfl, kk, rfl⟩; have p5 := p4.drewN kk; have q5 := hS p5))
  have o5 : Own (w4.drewN kk) 5 (.slice A (b.length + 1) c) ((b ++ [171]).map bv) := o2.mod p5 fun k hk hn => hn (so2 k hk)
  have hc4 := spoil_any o5 (by rw [List.length_append, List.length_singleton]; omega)
  have P6 : Pair (fun k => N2 k ∨ k = w2.drew.heap.size) (w4.drewN kk) v u (appendD d a [b]).1 (appendD d a [b]).1 := P5.ext ((Mod.refl _ _).drewN kk)
  clear hc1 hc2 hc3 hr hst hvm z2 q3' q4 q5 m3 m4 P4 P5 p3 p4
  generalize w4.drewN kk = w5 at *
  go_wp2_with fail
  refine hc4.mono ?_
  rintro e w6 ⟨rfl, m6⟩
  clear hc4
  go_wp2_with fail
  go_ret
  have P7 := P6.mod m6 fun k hk => .inl (so2 k hk)
  have y1 : Mod (fun k => ¬ N k) w w2 := (ext_trans x1 x2).mono fun _ _ h => h.elim
  refine ⟨rfl, ⟨_, P7.less fun k hk => .inl (s12 k (hsub k hk))⟩, (y1.then_ p5 fun k _ hk hn => hk (s12 k (hsub k hn))).then_ m6 fun k _ hk hn => ?_⟩
  have h1 := f2 k hk
  have h2 := hN k hn
  have h3 := x1.size
  omega
end
end Go.Proofs.Ytnmfkfjeihjkeaa
