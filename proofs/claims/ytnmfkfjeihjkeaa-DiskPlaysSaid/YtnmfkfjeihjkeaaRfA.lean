/- disk: all files, in both. -/
import Derived.Test.YtnmfkfjeihjkeaaRdX
namespace Go.Proofs.Ytnmfkfjeihjkeaa
open Go.RowKit Go.Maps Go.WideMaps
set_option maxRecDepth 100000

section
variable {N F : Nat → Prop} {w w' : World} {v u : Value} {d d' : Ds}
theorem Rd.used {T : Nat → Prop} (h : Rd T w u d) : Calls Try.prog 42 #[u] w fun e w' => e = .returned (ev (sumB d.L)) ∧ Ext w w' := by
  obtain ⟨bd, vL, A, rfl, h⟩ := h
  exact rused_any h
theorem Dk.used {S : Nat → Prop} (h : Dk S w v d) : Calls Try.prog 41 #[v] w fun e w' => e = .returned (ev (sumB d.L)) ∧ w' = w := by
  obtain ⟨bd, bm, D, G, rfl, h⟩ := h
  exact used_any h
theorem Dk.name_len {S : Nat → Prop} (h : Dk S w v d) {x : List UInt8} (hx : x ∈ nms d.L) : x.length ≤ 64 ∧ codeR (readD d x) = 0 := by
  obtain ⟨bd, bm, D, G, rfl, h⟩ := h
  obtain ⟨f, hf, rfl⟩ := List.mem_map.1 hx
  refine ⟨(h.fl f hf).2.2, ?_⟩
  unfold readD
  rw [getF_of_mem h.rise hf]
  rfl
set_option maxHeartbeats 16000000 in
theorem stood_any (h : Pair N w v u d d) :
    Calls Try.prog 13 #[v, u] w fun e w' => e = .returned (.bool true) ∧ Ext w w' := by
  obtain ⟨S, T, hd, hr, hS, hT, hST⟩ := h
  have hc1 := rlist_any hr
  go_enter Try.func13, Try.ntmps13
  go_wp2_with fail
  refine hc1.mono ?_
  rintro e w1 ⟨u1, rfl, o1, f1, x1⟩
  have hd1 := hd.ext x1
  have hr1 := hr.ext x1
  have hc2 := list_any hd1
  clear hc1
  go_wp2_with fail
  refine hc2.mono ?_
  rintro e w2 ⟨u2, rfl, o2, f2, x2⟩
  have hd2 := hd1.ext x2
  have hr2 := hr1.ext x2
  have o1' := Own.mod o1 x2 fun _ _ h => h
  have hc3 := texts3_any o2.sl o1'.sl
  rw [decide_eq_true rfl] at hc3
  clear hc2
  go_wp2_with fail
  refine hc3.mono ?_
  rintro e w3 ⟨rfl, x3⟩
  have hd3 := hd2.ext x3
  have hr3 := hr2.ext x3
  have hc4 := hd3.used
  have hc5 := hr3.used
  have o3 := Own.mod o1' x3 fun _ _ h => h
  have y3 := ext_trans x1 (ext_trans x2 x3)
  clear hc3
  go_wp2_with fail
  refine hc4.mono ?_
  rintro e w4 ⟨rfl, rfl⟩
  clear hc4
  go_wp2_with fail
  refine hc5.mono ?_
  rintro e w5 ⟨rfl, x5⟩
  have hd5 := hd3.ext x5
  have hr5 := hr3.ext x5
  have o5 := Own.mod o3 x5 fun _ _ h => h
  have y5 := ext_trans y3 x5
  clear hc5
  have ht : Ts w5 _ u1 (nms d.L) := o5.sl
  obtain ⟨A, c, hu, h1, h2, h3, h4⟩ := ht.open_
  subst hu
  have hnl := fun x hx => hd5.name_len (x := x) hx
  clear hd hd1 hd2 hd3 hr hr1 hr2 hr3 o1 o1' o2 o3 x1 x2 x3 x5 y3 o5 ht f1 f2 hS hT hST
  generalize nms d.L = L at *
  go_wp2_with fail
  go_loopw [6] (fun i wr => ∃ k : Nat, k ≤ L.length ∧ i = .int .i64 k ∧ Ext w5 wr) (fun i _ => L.length - (intOf i).toNat)
  case atStart => exact ⟨0, Nat.zero_le _, rfl, Mod.refl _ _⟩
  case round =>
    obtain ⟨k, hk, rfl, hx⟩ := hrel
    by_cases hlt : k < L.length
    case neg =>
      have hbl : decide ((k : Int) < (L.length : Int)) = false := dfalse (by omega)
      go_wp2_with fail
      go_ret
      exact ⟨rfl, ext_trans y5 hx⟩
    have hbl : decide ((k : Int) < (L.length : Int)) = true := dtrue (by omega)
    obtain ⟨ad, hA, hS, c0⟩ := (Cells.mod h4 hx (fun _ _ _ h => h)).at_ hlt
    subst hA
    have hi0 : (0 : Int) ≤ (k : Int) := by omega
    have hi1 : (k : Int) < (L.length : Int) := by omega
    obtain ⟨n1, n2⟩ := hnl _ (List.getElem_mem hlt)
    have hdr := hd5.ext hx
    have hrr := hr5.ext hx
    have cellx : ∀ {wx : World}, Ext wr wx → wx.cell? (ad.add k) = some (sv L[k]) := fun q => by
      obtain ⟨ad', hA', _, c'⟩ := (Cells.mod h4 (ext_trans hx q) (fun _ _ _ h => h)).at_ hlt
      cases hA'
      exact c'
    clear hd5 hr5 hnl h4
    generalize L[k] = x at *
    have hc1 := read_any hdr x (by omega)
    rw [n2] at hc1
    go_wp2_with fail
    refine hc1.mono ?_
    rintro e w6 ⟨v1, rfl, o1, f1, x6⟩
    have c1 := cellx x6
    have hc2 := rread_any (hrr.ext x6) x
    rw [n2] at hc2
    clear hc1
    go_wp2_with fail
    refine hc2.mono ?_
    rintro e w7 ⟨v2, rfl, o2, f2, x7⟩
    have hc3 := same_any (o1.mod x7 fun _ _ h => h).sl o2.sl
    rw [decide_eq_true rfl] at hc3
    clear hc2
    go_wp2_with fail
    refine hc3.mono ?_
    rintro e w8 ⟨rfl, kk, rfl⟩
    have x8 : Ext w5 (w7.drewN kk) := (ext_trans hx (ext_trans x6 x7)).drewN kk
    clear hc3
    generalize w7.drewN kk = w8 at *
    go_wp2_with fail
    exact ⟨⟨k + 1, by omega, by go_num, x8⟩, by simp [intOf] <;> omega⟩
end
end Go.Proofs.Ytnmfkfjeihjkeaa
namespace Go.Proofs.Ytnmfkfjeihjkeaa
open Go.RowKit Go.Maps Go.WideMaps
set_option maxRecDepth 100000

section
variable {N F : Nat → Prop} {w w' : World} {v u : Value} {d d' : Ds}
theorem does_any {s : St} (h : Pair N w v u d d) (hN : ∀ k, N k → k < w.heap.size) (hb : Bs w N s.v s.b) (hn : -9223372036854775808 ≤ s.n ∧ s.n ≤ 9223372036854775807) (ha : s.a.length ≤ 8000) (hbl : s.b.length ≤ 8000) :
    Calls Try.prog 12 #[v, u, .agg (star s)] w fun e w' => e = .returned (.bool true) ∧ (∃ d1, Pair N w' v u d1 d1) ∧ Mod (fun k => ¬ N k) w w' := by
  obtain ⟨kind, n, a, t, b, vb⟩ := s
  by_cases k1 : kind = 1
  · subst k1; exact does1 h hN hb hbl
  by_cases k2 : kind = 2
  · subst k2; exact does2 h hN
  by_cases k3 : kind = 3
  · subst k3; exact does3 h hN hn
  by_cases k4 : kind = 4
  · subst k4; exact does4 h hN
  by_cases k5 : kind = 5
  · subst k5; exact does5 h hN
  by_cases k6 : kind = 6
  · subst k6; exact does6 h hN hn
  by_cases k7 : kind = 7
  · subst k7; exact does7 h hN hn
  exact does0 h hN (by have : a.length ≤ 8000 := ha; omega) (by simpa using k1) (by simpa using k2) (by simpa using k3) (by simpa using k4) (by simpa using k5) (by simpa using k6) (by simpa using k7)
set_option maxHeartbeats 4000000 in
theorem new_bad (room : Int) (h : room < 0 ∨ 1073741824 < room) :
    Calls Try.prog 6 #[.int .i64 room] w fun e w' => e = .returned (.tuple #[.pointer none, ev 1]) ∧ Ext w w' := by
  by_cases h0 : room < 0
  · have hb1 : decide (room < 0) = true := dtrue h0
    go_enter Try.func6, Try.ntmps6
    go_wp2_with fail
    go_ret2
    exact ⟨rfl, Mod.refl _ _⟩
  · have hb1 : decide (room < 0) = false := dfalse h0
    have hb2 : decide (1073741824 < room) = true := dtrue (by omega)
    go_enter Try.func6, Try.ntmps6
    go_wp2_with fail
    go_ret2
    exact ⟨rfl, Mod.refl _ _⟩
set_option maxHeartbeats 4000000 in
theorem rnew_bad (room : Int) (h : room < 0 ∨ 1073741824 < room) :
    Calls Try.prog 7 #[.int .i64 room] w fun e w' => e = .returned (.tuple #[.pointer none, ev 1]) ∧ Ext w w' := by
  by_cases h0 : room < 0
  · have hb1 : decide (room < 0) = true := dtrue h0
    go_enter Try.func7, Try.ntmps7
    go_wp2_with fail
    go_ret2
    exact ⟨rfl, Mod.refl _ _⟩
  · have hb1 : decide (room < 0) = false := dfalse h0
    have hb2 : decide (1073741824 < room) = true := dtrue (by omega)
    go_enter Try.func7, Try.ntmps7
    go_wp2_with fail
    go_ret2
    exact ⟨rfl, Mod.refl _ _⟩
set_option maxHeartbeats 16000000 in
theorem plays_any {S : Nat → Prop} {room : Int} {y : Value} {L : List St} (h : Sts w S y L) (hok : ∀ c ∈ L, StOk w c) (hl : L.length ≤ 140737488351232) :
    Calls Try.prog 3 #[.int .i64 room, y] w fun e w' => e = .returned (.bool true) ∧ Ext w w' := by
  have kc := fun (w : World) (C : Array Value) (n c : Nat) => Lib.run_convert_bytes_const (P := Try.prog) w 32 5 C n c Try.underlying32 Try.underlying5
  have hc1 := heavy3_any h hok hl
  obtain ⟨A, c, rfl, h1, h2, h3, h4⟩ := h.open_ stl_len
  go_enter Try.func3, Try.ntmps3
  go_wp2_with fail
  refine hc1.mono ?_
  rintro e w1 ⟨q, rfl, hq, x1⟩
  clear hc1
  cases q with
  | true =>
    go_wp2_with fail
    refine known3_any.mono ?_
    rintro e w2 ⟨rfl, x2⟩
    go_wp2_with fail
    go_ret
    exact ⟨rfl, ext_trans x1 x2⟩
  | false =>
    have hlight := hq rfl
    clear hq
    by_cases hroom : room < 0 ∨ 1073741824 < room
    · have hc1 := new_bad (w := w1) room hroom
      go_wp2_with fail
      refine hc1.mono ?_
      rintro e w2 ⟨rfl, x2⟩
      have hc2 := rnew_bad (w := w2) room hroom
      clear hc1
      go_wp2_with fail
      refine hc2.mono ?_
      rintro e w3 ⟨rfl, x3⟩
      clear hc2
      go_wp2_with fail
      refine known3_any.mono ?_
      rintro e w4 ⟨rfl, x4⟩
      go_wp2_with fail
      go_ret
      exact ⟨rfl, ext_trans x1 (ext_trans x2 (ext_trans x3 x4))⟩
    have hc1 := new_any (w := w1) room (by omega) (by omega)
    go_wp2_with fail
    refine hc1.mono ?_
    rintro e w2 ⟨bd, rfl, hd2, hle2, x2⟩
    have hc2 := rnew_any (w := w2) room (by omega) (by omega)
    clear hc1
    go_wp2_with fail
    refine hc2.mono ?_
    rintro e w3 ⟨bu, rfl, hr3, x3⟩
    clear hc2
    have y3 := ext_trans x1 (ext_trans x2 x3)
    have P3 : Pair (fun k => k < w.heap.size) w3 (pv bd) (pv bu) (newD room) (newD room) := by
      have z1 := x1.size
      have z2 := x2.size
      have z3 := x3.size
      exact ⟨_, _, hd2.cut.ext x3, hr3.cut, fun k hk => ⟨by have := hk.2; omega, by have := hk.1; omega⟩, fun k hk => ⟨hk.2, by have := hk.1; omega⟩, fun k hk ht => by have := hk.2; have := ht.1; omega⟩
    clear hd2 hr3 hle2 x1 x2 x3 hroom h
    go_wp2_with fail
    go_loopw [5, 7, 9] (fun dv uv i wr => ∃ (k : Nat) (bd bu : Nat) (d : Ds), k ≤ L.length ∧ dv = pv bd ∧ uv = pv bu ∧ i = .int .i64 k ∧ Pair (fun k => k < w.heap.size) wr (pv bd) (pv bu) d d ∧ Ext w wr) (fun _ _ i _ => L.length - (intOf i).toNat)
    case atStart => exact ⟨0, bd, bu, _, Nat.zero_le _, rfl, rfl, rfl, P3, y3⟩
    case round =>
      clear P3 y3
      obtain ⟨k, bd, bu, d, hk, rfl, rfl, rfl, P, hx⟩ := hrel
      by_cases hlt : k < L.length ∧ k < 120
      case neg =>
        by_cases hlt1 : k < L.length
        · have hbl : decide ((k : Int) < (L.length : Int)) = true := dtrue (by omega)
          have hbk : decide ((k : Int) < 120) = false := dfalse (by omega)
          go_wp2_with fail
          refine known3_any.mono ?_
          rintro e w4 ⟨rfl, x4⟩
          go_wp2_with fail
          go_ret
          exact ⟨rfl, ext_trans hx x4⟩
        · have hbl : decide ((k : Int) < (L.length : Int)) = false := dfalse (by omega)
          go_wp2_with fail
          refine known3_any.mono ?_
          rintro e w4 ⟨rfl, x4⟩
          go_wp2_with fail
          go_ret
          exact ⟨rfl, ext_trans hx x4⟩
      obtain ⟨hlt, hk3⟩ := hlt
      have hbl : decide ((k : Int) < (L.length : Int)) = true := dtrue (by omega)
      have hbk : decide ((k : Int) < 120) = true := dtrue (by omega)
      obtain ⟨ad, hA, -, c0, c1, c2, c3, c4⟩ := Sts.at_ (h4.ext hx) hlt
      subst hA
      obtain ⟨s0, s1, -⟩ := hok _ (List.getElem_mem hlt)
      obtain ⟨l1, l2, l3⟩ := wS_few hlight hlt hk3
      have hi0 : (0 : Int) ≤ (k : Int) := by omega
      have hi1 : (k : Int) < (L.length : Int) := by omega
      have sb : Bs wr (fun k => k < w.heap.size) L[k].v L[k].b := (s0.mono (T := fun k => k < w.heap.size) fun k hk _ => hk).mod hx fun _ _ _ h => h
      have hsz := hx.size
      clear s0 h4 hok hlight
      generalize L[k] = x at *
      by_cases h8 : x.kind = 8
      case neg =>
        have hb8 : (x.kind == 8) = false := by simpa using h8
        have hc1 := does_any P (fun k hk => by omega) sb s1 l1 l3
        clear sb s1 l1 l2 l3 P
        obtain ⟨kind, n, a, t, b, vb⟩ := x
        go_wp2_with fail
        refine hc1.mono ?_
        rintro e w4 ⟨rfl, ⟨d1, P4⟩, m4⟩
        have hc2 := stood_any P4
        have x4 : Ext w w4 := hx.trans m4 (fun _ _ h => h) fun k hk hn => hn hk
        clear hc1
        go_wp2_with fail
        refine hc2.mono ?_
        rintro e w5 ⟨rfl, x5⟩
        clear hc2
        go_wp2_with fail
        exact ⟨⟨k + 1, bd, bu, d1, by omega, rfl, rfl, by go_num, P4.ext x5, ext_trans x4 x5⟩, by simp [intOf] <;> omega⟩
      have hb8 : (x.kind == 8) = true := by simpa using h8
      clear sb s1 l1 l2 l3
      obtain ⟨S, T, hd, hr, hS, hT, hST⟩ := P
      have hc1 := copy_any hd
      go_wp2_with fail
      refine hc1.mono ?_
      rintro e w4 ⟨bo, rfl, hd4, x4⟩
      have hc2 := rcopy_any (hr.ext x4)
      clear hc1
      go_wp2_with fail
      refine hc2.mono ?_
      rintro e w5 ⟨bo2, rfl, hr5, x5⟩
      clear hc2
      go_wp2_with fail
      have xa : Ext w5 ((w5.alloc (.cells ([120].map bv).toArray 5 (1, 2))).alloc (.cells #[.slice (some ⟨w5.heap.size, 0, none⟩) 1 1] 32)) := ((Mod.refl _ _).alloc _).alloc _
      have z4 := x4.size
      have z5 := x5.size
      have hc1 := append_any ((hd.ext x4).ext (ext_trans x5 xa)) [115, 112, 111, 105, 108, 116] (lit_row w5 [120] (1, 2) (by decide)) (fun k hk hs => by have := (hS k hs).1; omega) (by decide)
      refine hc1.mono ?_
      rintro e w6 ⟨rfl, hd6, m6⟩
      have hc2 := crash_any hd6 0 (by omega)
      clear hc1
      go_wp2_with fail
      refine hc2.mono ?_
      rintro e w7 ⟨rfl, hd7, m7⟩
      clear hc2
      go_wp2_with fail
      have za := xa.size
      have z6 := m6.size
      have z7 := m7.size
      have hd5 := hd4.cut.ext (ext_trans x5 xa)
      have hr6 := hr5.cut.ext xa
      have PN : Pair (fun k => k < w.heap.size) w7 (pv bo) (pv bo2) { d with fu := false, left := 0 } { d with fu := false, left := 0 } := by
        refine ⟨_, _, (hd5.mod m6 fun k _ h1 h2 => by have := (hS k h2).1; omega).mod m7 fun k _ h1 h2 => ?_, (hr6.mod m6 fun k _ h1 h2 => by have := (hS k h2).1; omega).mod m7 fun k _ h1 h2 => ?_, fun k hk => ⟨by omega, by omega⟩, fun k hk => ⟨by omega, by omega⟩, fun k hk ht => by omega⟩
        · rcases h2 with h2 | h2
          · have := (hS k h2).1; omega
          · omega
        · rcases h2 with h2 | h2
          · have := (hS k h2).1; omega
          · omega
      have xN : Ext w w7 := ((ext_trans hx (ext_trans x4 (ext_trans x5 xa))).trans m6 (fun _ _ h => h) fun k hk h2 => (hS k h2).2 hk).trans m7 (fun _ _ h => h) fun k hk h2 => by
        rcases h2 with h2 | h2
        · exact (hS k h2).2 hk
        · omega
      exact ⟨⟨k + 1, bo, bo2, _, by omega, rfl, rfl, by go_num, PN, xN⟩, by simp [intOf] <;> omega⟩
end
end Go.Proofs.Ytnmfkfjeihjkeaa
