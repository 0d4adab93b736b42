/- match: what is below what, walked; the laws Order, Numbers. -/
import Derived.Test.YtgghjkefbfbopaaDoorMtG
import Derived.Test.YtgghjkefbfbopaaDoorMtL
import Derived.Shelf.LaysC
import Derived.Shelf.Strconv.AtoiAll
namespace Go.Proofs.YtgghjkefbfbopaaDoor
open Go.Shelf Go.RowKit
set_option maxRecDepth 100000

def lay172_ren : Go.Shelf.Ren := ⟨fun | 172 => 46 | 244 => 63 | 245 => 64 | 247 => 77 | 279 => 78 | 280 => 79 | 281 => 80 | 282 => 81 | 287 => 92 | 316 => 93 | 171 => 95 | 205 => 94 | 321 => 102 | 322 => 103 | 243 => 104 | 246 => 107 | 283 => 108 | 284 => 109 | 285 => 110 | 286 => 111 | 129 => 113 | 317 => 112 | 318 => 114 | 319 => 115 | 320 => 116 | 337 => 117 | 338 => 118 | n => n, fun | 9 => 9 | 3 => 3 | 75 => 62 | 76 => 63 | 4 => 4 | 5 => 5 | 167 => 81 | 37 => 46 | 0 => 0 | 85 => 82 | 2 => 2 | 168 => 84 | 53 => 97 | 175 => 98 | 46 => 80 | 210 => 101 | 127 => 106 | 145 => 111 | 143 => 109 | 21 => 21 | 171 => 120 | 173 => 123 | 212 => 126 | 51 => 103 | 20 => 20 | 213 => 127 | 232 => 131 | 233 => 132 | 80 => 94 | n => n, fun | 15 => 1 | 16 => 2 | 17 => 5 | 18 => 6 | 19 => 7 | n => n⟩
theorem lay172 : Go.Proofs.LaysC.n172 Tryd.prog lay172_ren := {
  mixed := by kernel_rfl
  f129 := Tryd.func113.trans (congrArg some (by kernel_rfl))
  f171 := Tryd.func95.trans (congrArg some (by kernel_rfl))
  f172 := Tryd.func46.trans (congrArg some (by kernel_rfl))
  f205 := Tryd.func94.trans (congrArg some (by kernel_rfl))
  f243 := Tryd.func104.trans (congrArg some (by kernel_rfl))
  f244 := Tryd.func63.trans (congrArg some (by kernel_rfl))
  f245 := Tryd.func64.trans (congrArg some (by kernel_rfl))
  f246 := Tryd.func107.trans (congrArg some (by kernel_rfl))
  f247 := Tryd.func77.trans (congrArg some (by kernel_rfl))
  f279 := Tryd.func78.trans (congrArg some (by kernel_rfl))
  f280 := Tryd.func79.trans (congrArg some (by kernel_rfl))
  f281 := Tryd.func80.trans (congrArg some (by kernel_rfl))
  f282 := Tryd.func81.trans (congrArg some (by kernel_rfl))
  f283 := Tryd.func108.trans (congrArg some (by kernel_rfl))
  f284 := Tryd.func109.trans (congrArg some (by kernel_rfl))
  f285 := Tryd.func110.trans (congrArg some (by kernel_rfl))
  f286 := Tryd.func111.trans (congrArg some (by kernel_rfl))
  f287 := Tryd.func92.trans (congrArg some (by kernel_rfl))
  f316 := Tryd.func93.trans (congrArg some (by kernel_rfl))
  f317 := Tryd.func112.trans (congrArg some (by kernel_rfl))
  f318 := Tryd.func114.trans (congrArg some (by kernel_rfl))
  f319 := Tryd.func115.trans (congrArg some (by kernel_rfl))
  f320 := Tryd.func116.trans (congrArg some (by kernel_rfl))
  f321 := Tryd.func102.trans (congrArg some (by kernel_rfl))
  f322 := Tryd.func103.trans (congrArg some (by kernel_rfl))
  f337 := Tryd.func117.trans (congrArg some (by kernel_rfl))
  f338 := Tryd.func118.trans (congrArg some (by kernel_rfl))
  t0 := Tryd.underlying0
  a0 := Tryd.isAgg0
  z0 := Tryd.sizeOf0
  v0 := Tryd.zeroValue0
  t2 := Tryd.underlying2
  a2 := Tryd.isAgg2
  z2 := Tryd.sizeOf2
  v2 := Tryd.zeroValue2
  t3 := Tryd.underlying3
  a3 := Tryd.isAgg3
  z3 := Tryd.sizeOf3
  v3 := Tryd.zeroValue3
  t4 := Tryd.underlying4
  a4 := Tryd.isAgg4
  z4 := Tryd.sizeOf4
  v4 := Tryd.zeroValue4
  t5 := Tryd.underlying5
  a5 := Tryd.isAgg5
  z5 := Tryd.sizeOf5
  v5 := Tryd.zeroValue5
  t9 := Tryd.underlying9
  a9 := Tryd.isAgg9
  z9 := Tryd.sizeOf9
  v9 := Tryd.zeroValue9
  t20 := Tryd.underlying20
  a20 := Tryd.isAgg20
  z20 := Tryd.sizeOf20
  v20 := Tryd.zeroValue20
  t21 := Tryd.underlying21
  a21 := Tryd.isAgg21
  z21 := Tryd.sizeOf21
  v21 := Tryd.zeroValue21
  t37 := Tryd.underlying46
  a37 := Tryd.isAgg46
  z37 := Tryd.sizeOf46
  v37 := Tryd.zeroValue46
  t46 := Tryd.underlying80
  a46 := Tryd.isAgg80
  z46 := Tryd.sizeOf80
  v46 := Tryd.zeroValue80
  t51 := Tryd.underlying103
  a51 := Tryd.isAgg103
  z51 := Tryd.sizeOf103
  v51 := Tryd.zeroValue103
  t53 := Tryd.underlying97
  a53 := Tryd.isAgg97
  z53 := Tryd.sizeOf97
  v53 := Tryd.zeroValue97
  t75 := Tryd.underlying62
  a75 := Tryd.isAgg62
  z75 := Tryd.sizeOf62
  v75 := Tryd.zeroValue62
  t76 := Tryd.underlying63
  a76 := Tryd.isAgg63
  z76 := Tryd.sizeOf63
  v76 := Tryd.zeroValue63
  t85 := Tryd.underlying82
  a85 := Tryd.isAgg82
  z85 := Tryd.sizeOf82
  v85 := Tryd.zeroValue82
  t127 := Tryd.underlying106
  a127 := Tryd.isAgg106
  z127 := Tryd.sizeOf106
  v127 := Tryd.zeroValue106
  t143 := Tryd.underlying109
  a143 := Tryd.isAgg109
  z143 := Tryd.sizeOf109
  v143 := Tryd.zeroValue109
  t145 := Tryd.underlying111
  a145 := Tryd.isAgg111
  z145 := Tryd.sizeOf111
  v145 := Tryd.zeroValue111
  t167 := Tryd.underlying81
  a167 := Tryd.isAgg81
  z167 := Tryd.sizeOf81
  v167 := Tryd.zeroValue81
  t168 := Tryd.underlying84
  a168 := Tryd.isAgg84
  z168 := Tryd.sizeOf84
  v168 := Tryd.zeroValue84
  t171 := Tryd.underlying120
  a171 := Tryd.isAgg120
  z171 := Tryd.sizeOf120
  v171 := Tryd.zeroValue120
  t173 := Tryd.underlying123
  a173 := Tryd.isAgg123
  z173 := Tryd.sizeOf123
  v173 := Tryd.zeroValue123
  t175 := Tryd.underlying98
  a175 := Tryd.isAgg98
  z175 := Tryd.sizeOf98
  v175 := Tryd.zeroValue98
  t210 := Tryd.underlying101
  a210 := Tryd.isAgg101
  z210 := Tryd.sizeOf101
  v210 := Tryd.zeroValue101
  t212 := Tryd.underlying126
  a212 := Tryd.isAgg126
  z212 := Tryd.sizeOf126
  v212 := Tryd.zeroValue126
  t213 := Tryd.underlying127
  a213 := Tryd.isAgg127
  z213 := Tryd.sizeOf127
  t232 := Tryd.underlying131
  a232 := Tryd.isAgg131
  z232 := Tryd.sizeOf131
  v232 := Tryd.zeroValue131
  t233 := Tryd.underlying132
  a233 := Tryd.isAgg132
  z233 := Tryd.sizeOf132
  v233 := Tryd.zeroValue132
  g15 := by kernel_rfl
  g16 := by kernel_rfl
  g17 := by kernel_rfl
  g18 := by kernel_rfl
  g19 := by kernel_rfl
  t80 := Tryd.underlying94
  a80 := Tryd.isAgg94
  z80 := Tryd.sizeOf94
  v80 := Tryd.zeroValue94
  i0 := by kernel_rfl
  i2 := by kernel_rfl
  i3 := by kernel_rfl
  i4 := by kernel_rfl
  i5 := by kernel_rfl
  i9 := by kernel_rfl
  i20 := by kernel_rfl
  i21 := by kernel_rfl
  i37 := by kernel_rfl
  i46 := by kernel_rfl
  i51 := by kernel_rfl
  i53 := by kernel_rfl
  i75 := by kernel_rfl
  i76 := by kernel_rfl
  i80 := by kernel_rfl
  i85 := by kernel_rfl
  i127 := by kernel_rfl
  i143 := by kernel_rfl
  i145 := by kernel_rfl
  i167 := by kernel_rfl
  i168 := by kernel_rfl
  i171 := by kernel_rfl
  i173 := by kernel_rfl
  i175 := by kernel_rfl
  i210 := by kernel_rfl
  i212 := by kernel_rfl
  i232 := by kernel_rfl
  i233 := by kernel_rfl
  m15 := by kernel_rfl
  m16 := by kernel_rfl
  m17 := by kernel_rfl
  m18 := by kernel_rfl
  m19 := by kernel_rfl
  c0 := by kernel_rfl
  c2 := by kernel_rfl
  c3 := by kernel_rfl
  c4 := by kernel_rfl
  c5 := by kernel_rfl
  c9 := by kernel_rfl
  c20 := by kernel_rfl
  c21 := by kernel_rfl
  c37 := by kernel_rfl
  c46 := by kernel_rfl
  c51 := by kernel_rfl
  c53 := by kernel_rfl
  c75 := by kernel_rfl
  c76 := by kernel_rfl
  c80 := by kernel_rfl
  c85 := by kernel_rfl
  c127 := by kernel_rfl
  c143 := by kernel_rfl
  c145 := by kernel_rfl
  c167 := by kernel_rfl
  c168 := by kernel_rfl
  c171 := by kernel_rfl
  c173 := by kernel_rfl
  c175 := by kernel_rfl
  c210 := by kernel_rfl
  c212 := by kernel_rfl
  c213 := by kernel_rfl
  c232 := by kernel_rfl
  c233 := by kernel_rfl }

section
variable {w : World}
theorem bytes_ext (w : World) (e : TypeId) (t : ByteArray) : Ext w (Lib.bytesWorld w e t) := ⟨rfl, rfl, rfl, by rw [Lib.bytesWorld_size]; omega, fun k hk _ => Lib.bytesWorld_at_old w e t k hk⟩
theorem numV_bd {s : List UInt8} (h : isNum s = true) : -1000000000000000000 < numV s ∧ numV s < 1000000000000000000 := by
  have := numV_lt h
  unfold numV
  split <;> omega
theorem isNum_len {s : List UInt8} (h : isNum s = true) : s.length ≤ 19 := by
  have h1 := neg_len h
  have h2 := isNum_out h
  split at h1 <;> omega
set_option maxHeartbeats 4000000 in
theorem atoi_any (s : List UInt8) (h : isNum s = true) : Calls Tryd.prog 28 #[sv s] w fun e w' => e = .returned (.int .i64 (numV s)) ∧ Ext w w' := by
  have hl := isNum_len h
  have hc := Any.strconv_Atoi_ok lay172 ⟨s.toArray⟩ (by have : (⟨s.toArray⟩ : ByteArray).size = s.length := sv_size s; omega) (numV s) (atoi_num h) w
  generalize numV s = n at *
  clear h hl
  go_enter Tryd.func28, Tryd.ntmps28
  go_wp2_with fail
  refine hc.mono ?_
  rintro e w1 ⟨rfl, hw⟩
  have x1 : Ext w w1 := by
    rcases hw with rfl | ⟨t, rfl⟩
    · exact Mod.refl _ _
    · exact bytes_ext _ _ _
  clear hw hc
  go_wp2_with fail
  go_ret
  exact ⟨rfl, x1⟩
set_option maxHeartbeats 4000000 in
theorem less_any (k : Int) (a b : List UInt8) (ha : a.length ≤ 140737488351232) (hb : b.length ≤ 140737488351232) :
    Calls Tryd.prog 8 #[.int .i64 k, sv a, sv b] w fun e w' => e = .returned (.tuple #[.bool (lessM k a b).1, .bool (lessM k a b).2]) ∧ Ext w w' := by
  have hc := mnorm_any (w := w) k a ha
  have hc2 := fun w1 : World => mnorm_any (w := w1) k b hb
  by_cases hn : (normM k a).2 = false ∨ (normM k b).2 = false ∨ k = 3
  · rw [less_no hn]
    have hcase : ((normM k a).2 = false) ∨ ((normM k a).2 = true ∧ (normM k b).2 = false) ∨ ((normM k a).2 = true ∧ (normM k b).2 = true ∧ (k == 3) = true) := by
      cases e1 : (normM k a).2 with
      | false => exact .inl rfl
      | true =>
        cases e2 : (normM k b).2 with
        | false => exact .inr (.inl ⟨rfl, rfl⟩)
        | true =>
          rw [e1, e2] at hn
          exact .inr (.inr ⟨rfl, rfl, by rcases hn with h | h | h; (cases h); (cases h); (simpa using h)⟩)
    clear hn
    generalize normM k a = p at *
    generalize normM k b = q at *
    obtain ⟨x, ok⟩ := p
    obtain ⟨y, is⟩ := q
    simp only at hc hc2 hcase
    rcases hcase with rfl | ⟨rfl, rfl⟩ | ⟨rfl, rfl, k3⟩
    · cases is
      all_goals
        go_enter Tryd.func8, Tryd.ntmps8
        go_wp2_with fail
        refine hc.mono ?_
        rintro e w1 ⟨rfl, x1⟩
        clear hc
        go_wp2_with fail
        refine (hc2 w1).mono ?_
        rintro e w2 ⟨rfl, x2⟩
        clear hc2
        go_wp2_with fail
        go_ret2
        exact ⟨rfl, ext_trans x1 x2⟩
    all_goals
      go_enter Tryd.func8, Tryd.ntmps8
      go_wp2_with fail
      refine hc.mono ?_
      rintro e w1 ⟨rfl, x1⟩
      clear hc
      go_wp2_with fail
      refine (hc2 w1).mono ?_
      rintro e w2 ⟨rfl, x2⟩
      clear hc2
      go_wp2_with fail
      go_ret2
      exact ⟨rfl, ext_trans x1 x2⟩
  rw [less_yes hn]
  have h1 : (normM k a).2 = true := by cases e : (normM k a).2 with | true => rfl | false => exact absurd (.inl e) hn
  have h2 : (normM k b).2 = true := by cases e : (normM k b).2 with | true => rfl | false => exact absurd (.inr (.inl e)) hn
  have k3 : (k == 3) = false := by simpa using fun e => hn (.inr (.inr e))
  by_cases hk : k = 2
  · subst hk
    obtain ⟨e1, n1⟩ := normM_num h1
    obtain ⟨e2, n2⟩ := normM_num h2
    rw [e1] at hc
    rw [e2] at hc2
    rw [e1, e2, if_pos rfl]
    have hd1 := fun wx : World => atoi_any (w := wx) a n1
    have hd2 := fun wx : World => atoi_any (w := wx) b n2
    clear h1 h2 hn e1 e2 n1 n2
    generalize numV a = u at *
    generalize numV b = v at *
    simp only at hc hc2
    go_enter Tryd.func8, Tryd.ntmps8
    go_wp2_with fail
    refine hc.mono ?_
    rintro e w1 ⟨rfl, x1⟩
    clear hc
    go_wp2_with fail
    refine (hc2 w1).mono ?_
    rintro e w2 ⟨rfl, x2⟩
    clear hc2
    go_wp2_with fail
    refine (hd1 w2).mono ?_
    rintro e w3 ⟨rfl, x3⟩
    clear hd1
    go_wp2_with fail
    refine (hd2 w3).mono ?_
    rintro e w4 ⟨rfl, x4⟩
    clear hd2
    go_wp2_with fail
    go_ret2
    exact ⟨rfl, ext_trans x1 (ext_trans x2 (ext_trans x3 x4))⟩
  · rw [if_neg hk]
    have k2 : (k == 2) = false := by simpa using hk
    clear hn
    generalize normM k a = p at *
    generalize normM k b = q at *
    obtain ⟨x, ok⟩ := p
    obtain ⟨y, is⟩ := q
    simp only at hc hc2 h1 h2
    subst h1
    subst h2
    go_enter Tryd.func8, Tryd.ntmps8
    go_wp2_with fail
    refine hc.mono ?_
    rintro e w1 ⟨rfl, x1⟩
    clear hc
    go_wp2_with fail
    refine (hc2 w1).mono ?_
    rintro e w2 ⟨rfl, x2⟩
    clear hc2
    go_wp2_with fail
    go_ret2
    exact ⟨rfl, ext_trans x1 x2⟩
set_option maxHeartbeats 8000000 in
theorem order_any (k : Int) (a b c : List UInt8) (ha : a.length ≤ 140737488351232) (hb : b.length ≤ 140737488351232) (hc : c.length ≤ 140737488351232) (hm : Mxl w) :
    Calls Tryd.prog 3 #[.int .i64 k, sv a, sv b, sv c] w fun e w' => e = .returned (.bool true) ∧ Ext w w' := by
  have hx : Ext w (w.alloc (.cells #[sv a, sv b, sv c] 9)) := (Mod.refl _ w).alloc _
  have hr : Ss (w.alloc (.cells #[sv a, sv b, sv c] 9)) (fun k => k = w.heap.size) (.slice (some ⟨w.heap.size, 0, none⟩) 3 3) [a, b, c] := Sl.lit w 9 [sv a, sv b, sv c] (by simp [maxLen])
  have hh := heavy15_any hr (by simp; exact ⟨ha, hb, hc⟩)
  have l1 := fun wx : World => less_any (w := wx) k a b ha hb
  have l2 := fun wx : World => less_any (w := wx) k b a hb ha
  have l3 := fun wx : World => less_any (w := wx) k b c hb hc
  have l4 := fun wx : World => less_any (w := wx) k a c ha hc
  have l5 := fun wx : World => mequal_any (w := wx) k a b ha hb
  have hkn := fun (wx : World) (q : Ext w wx) => known15_any (w := wx) (hm.ext q)
  have hok := equal_comm_ok (k := k) (a := a) (b := b)
  have hone := fun h => less_one (k := k) (a := a) (b := b) h
  have hch := fun h h2 => less_chain (k := k) (a := a) (b := b) (c := c) h h2
  clear hm hr ha hb hc
  generalize lessM k a b = r1 at *
  generalize lessM k b a = r2 at *
  generalize lessM k b c = r3 at *
  generalize lessM k a c = r4 at *
  generalize equalM k a b = one at *
  obtain ⟨x, ok⟩ := r1
  obtain ⟨y, is⟩ := r2
  obtain ⟨z, more⟩ := r3
  obtain ⟨wv, wo⟩ := r4
  simp only at l1 l2 l3 l4 hok hone hch
  subst hok
  replace hone := Lib.hid hone
  replace hch := Lib.hid hch
  go_enter Tryd.func3, Tryd.ntmps3
  go_wp2_with fail
  refine hh.mono ?_
  rintro e w1 ⟨q, rfl, -, rfl⟩
  clear hh
  cases q with
  | true =>
    go_wp2_with fail
    go_ret
    exact ⟨rfl, hx⟩
  | false =>
  go_wp2_with fail
  refine (l1 _).mono ?_
  rintro e w2 ⟨rfl, x2⟩
  clear l1
  go_wp2_with fail
  refine (l2 _).mono ?_
  rintro e w3 ⟨rfl, x3⟩
  have y3 := ext_trans hx (ext_trans x2 x3)
  clear l2
  cases ok with
  | false =>
    have hk := hkn _ y3
    clear hkn l3 l4 l5
    go_wp2_with fail
    refine hk.mono ?_
    rintro e w4 ⟨rfl, x4⟩
    go_wp2_with fail
    go_ret
    exact ⟨rfl, ext_trans y3 x4⟩
  | true =>
  have hone2 := hone.out rfl
  clear hone
  go_wp2_with fail
  refine (l3 _).mono ?_
  rintro e w4 ⟨rfl, x4⟩
  clear l3
  go_wp2_with fail
  refine (l4 _).mono ?_
  rintro e w5 ⟨rfl, x5⟩
  clear l4
  go_wp2_with fail
  refine (l5 _).mono ?_
  rintro e w6 ⟨rfl, x6⟩
  have y6 := ext_trans y3 (ext_trans x4 (ext_trans x5 x6))
  have hk := hkn _ y6
  clear l5 hkn
  have hch2 : more = false ∨ x = false ∨ z = false ∨ wv = true := by
    cases more with
    | false => exact .inl rfl
    | true =>
      cases x with
      | false => exact .inr (.inl rfl)
      | true =>
        cases z with
        | false => exact .inr (.inr (.inl rfl))
        | true => exact .inr (.inr (.inr (by simpa using hch.out)))
  clear hch
  cases one <;> cases x <;> cases y <;> simp at hone2
  all_goals
    clear hone2
    cases more <;> cases z <;> cases wv <;> simp at hch2
    all_goals
      clear hch2
      go_wp2_with fail
      refine hk.mono ?_
      rintro e w7 ⟨rfl, x7⟩
      go_wp2_with fail
      go_ret
      exact ⟨rfl, ext_trans y6 x7⟩
end
end Go.Proofs.YtgghjkefbfbopaaDoor
